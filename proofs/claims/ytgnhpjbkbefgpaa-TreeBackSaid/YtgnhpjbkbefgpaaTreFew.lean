/-
  What stmts and few of the statements of layer 7 return. Conditions: trees in memory.
-/
import Derived.Test.YtgnhpjbkbefgpaaTreName
namespace Go.Proofs.Ytgnhpjbkbefgpaa.tre
open Go.RowKit lex

theorem drop_st {l : List St} {k : Nat} (h : k < l.length) : l.drop k = l[k] :: l.drop (k + 1) := List.drop_eq_getElem_cons h
/-- The cells of the k-th statement of a slice. -/
theorem Sts.get {w : World} {ao : Option Addr} {n cap : Nat} {l : List St} (h : Sts w (.slice ao n cap) l) {k : Nat} (hk : k < l.length) : ∃ A, ao = some A ∧ stAt w l[k] (A.add (k * 5)) := by
  obtain ⟨ao', cap', e, _, _, hA⟩ := h
  cases e
  obtain ⟨A, rfl, h2⟩ := hA (by omega)
  exact ⟨A, rfl, by have := stsAt_get h2 k hk; rwa [Nat.zero_add] at this⟩
/-- What the guard's function answers to a list of statements, wherever it lies. -/
def StmOk (l : List St) : Prop := ∀ (w : World) (v : Value) (most d : Int), 0 ≤ most → most ≤ 600 → 0 ≤ d → d ≤ 21 → Sts w v l →
  Calls Try.prog 25 #[v, .int .i64 most, .int .i64 d] w fun e w' => e = .returned (.int .i64 (stmT l most d)) ∧ w = w'
theorem StmOk.of {l : List St} (h : StmOk l) (w : World) (v : Value) (most d R : Int) (h0 : 0 ≤ most) (h1 : most ≤ 600) (h2 : 0 ≤ d) (h3 : d ≤ 21) (hs : Hid (Sts w v l)) (hr : Hid (stmT l most d = R)) :
    Calls Try.prog 25 #[v, .int .i64 most, .int .i64 d] w fun e w' => e = .returned (.int .i64 R) ∧ w = w' := by
  rw [← hr.out]; exact h w v most d h0 h1 h2 h3 hs.out
set_option maxRecDepth 100000 in
set_option maxHeartbeats 8000000 in
theorem stm_step (l : List St) (ih : ∀ s ∈ l, StmOk s.body) : StmOk l := by
  intro w v most d h0 h1 h2 h3 hs
  obtain ⟨R, hR⟩ : ∃ R, stmT l most d = R := ⟨_, rfl⟩
  rw [hR]
  unfold stmT at hR
  by_cases hd : 20 < d
  · rw [if_pos hd] at hR
    subst hR
    clear hs ih
    go_enter Try.func25, Try.ntmps25
    go_wp2
    go_ret
    exact ⟨rfl, rfl⟩
  · rw [if_neg hd] at hR
    have HR := Lib.hid hR
    have hs' := hs
    obtain ⟨ao, cap, rfl, hc, hm, _⟩ := hs'
    have HS := Lib.hid hs
    have IH := Lib.hid ih
    unfold maxLen at hm
    have hlm : l.length ≤ 9223372036854775807 := by omega
    clear hR hs ih hc hm
    go_enter Try.func25, Try.ntmps25
    go_wp2_with fail
    go_loop [7, 8] (fun nv iv => ∃ (n : Int) (k : Nat), nv = .int .i64 n ∧ iv = .int .i64 k ∧ k ≤ l.length ∧ (k : Int) ≤ n ∧ n ≤ most ∧ stmL (l.drop k) n most d = R) (fun _ iv => l.length - (intOf iv).toNat)
    case atStart => exact ⟨0, 0, rfl, rfl, Nat.zero_le _, by omega, by omega, HR.out⟩
    case round =>
      obtain ⟨n, k, rfl, rfl, hk, hkn, hnm, hr⟩ := hrel
      have HX := Lib.hid hr
      clear hr HR
      by_cases hlt : k < l.length
      · obtain ⟨A, rfl, hst⟩ := HS.out.get hlt
        obtain ⟨_, _, _, ⟨rv, c2, hrv⟩, ⟨av, c3, hav⟩, bv, c4, hbv⟩ := (stAt_eq _ _ _).1 hst
        obtain ⟨ro, rc, rfl, _, _, _⟩ := hrv
        obtain ⟨so, sc, rfl, _, _, _⟩ := hav
        have hcons := HX.out
        rw [drop_st hlt, stmL_cons] at hcons
        have hb := IH.out l[k] (List.getElem_mem hlt)
        have z0 : (0 : Int) ≤ (k : Int) := by omega
        have z1 : (k : Int) < (l.length : Int) := by omega
        clear hst HX
        by_cases g1 : most < n + 1
        · rw [if_pos (Or.inl g1)] at hcons
          subst hcons
          clear hbv hb
          go_wp2
          go_ret
          exact ⟨rfl, rfl⟩
        by_cases g2 : (40 : Int) < (l[k].refs.length : Int)
        · rw [if_pos (Or.inr (Or.inl (by omega)))] at hcons
          subst hcons
          clear hbv hb
          have d2 : decide ((40 : Int) < (l[k].refs.length : Int)) = true := decide_eq_true g2
          go_wp2
          go_ret
          exact ⟨rfl, rfl⟩
        have d2 : decide ((40 : Int) < (l[k].refs.length : Int)) = false := decide_eq_false g2
        by_cases g3 : (40 : Int) < (l[k].attrs.length : Int)
        · rw [if_pos (Or.inr (Or.inr (by omega)))] at hcons
          subst hcons
          clear hbv hb
          have d3 : decide ((40 : Int) < (l[k].attrs.length : Int)) = true := decide_eq_true g3
          go_wp2
          go_ret
          exact ⟨rfl, rfl⟩
        have d3 : decide ((40 : Int) < (l[k].attrs.length : Int)) = false := decide_eq_false g3
        rw [if_neg (by omega)] at hcons
        obtain ⟨B, hB⟩ : ∃ B, stmT l[k].body (most - (n + 1)) (d + 1) = B := ⟨_, rfl⟩
        rw [hB] at hcons
        have HBv := Lib.hid hbv
        have HB := Lib.hid hB
        have hle : 0 ≤ B → B ≤ most - (n + 1) := fun hq => by
          have := stm_spec.1 l[k] (most - (n + 1)) (d + 1) (by rw [hB]; exact hq)
          rw [hB] at this
          omega
        have HC : Hid (Calls Try.prog 25 #[bv, .int .i64 (most - (n + 1)), .int .i64 (d + 1)] w fun e w' => e = .returned (.int .i64 B) ∧ w = w') := Lib.hid (hb.of w bv _ _ B (by omega) (by omega) (by omega) (by omega) HBv HB)
        clear hbv hB hb
        by_cases g4 : B < 0
        · rw [if_pos g4] at hcons
          subst hcons
          clear hle
          go_wp2_with (go_at_call 25; refine (HC.out).mono ?_; rintro e w' ⟨rfl, rfl⟩)
          go_ret
          exact ⟨rfl, rfl⟩
        · rw [if_neg g4] at hcons
          have hBm := hle (by omega)
          have HN := Lib.hid hcons
          clear hcons hle
          go_wp2_with (go_at_call 25; refine (HC.out).mono ?_; rintro e w' ⟨rfl, rfl⟩)
          go_round
          case rel => exact ⟨n + 1 + B, k + 1, rfl, by go_num, by omega, by omega, by omega, HN.out⟩
          case measure => simp [intOf]; omega
      · obtain rfl : k = l.length := by omega
        have HN : Hid (n = R) := Lib.hid (by have := HX.out; rw [List.drop_length, stmL_nil] at this; exact this)
        obtain rfl := HN.out
        go_wp2
        go_ret
        exact ⟨rfl, rfl⟩
/-- What holds of a list if it holds of the bodies of its statements holds of all lists. -/
theorem lst_ind {P : List St → Prop} (step : ∀ l, (∀ s ∈ l, P s.body) → P l) (l : List St) : P l :=
  ((st_ind (P := fun s => P s.body) (Q := fun l => (∀ s ∈ l, P s.body) ∧ P l) (fun _ _ _ _ _ h => h.2) ⟨fun _ h => (by cases h), step [] (fun _ h => (by cases h))⟩
    (fun s t hs ht => (fun h => ⟨h, step _ h⟩) (fun x hx => by rcases List.mem_cons.1 hx with rfl | hx; exact hs; exact ht.1 x hx))).2 l).2
theorem stm_ok (l : List St) : StmOk l := lst_ind stm_step l
theorem few_of (T : Tr) (v : Value) (w : World) (b : Bool) (ht : Hid (TrV w v T)) (hb : Hid (few T.body = b)) :
    Calls Try.prog 8 #[v] w fun e w' => e = .returned (.bool b) ∧ Below w.heap.size w w' := by
  obtain ⟨bv, rfl, _, hs⟩ := ht.out
  have hB := al1 w (.cells #[.string (bb T.name), .bool T.dir, bv] 24)
  have hs2 := Lib.hid (hs.keep hB)
  obtain ⟨R, hR⟩ : ∃ R, stmT T.body 600 0 = R := ⟨_, rfl⟩
  have HR := Lib.hid hR
  have HB2 : Hid (decide (0 ≤ R) = b) := Lib.hid (by rw [← hb.out, ← hR]; rfl)
  have cF := Lib.hid ((stm_ok T.body).of _ bv 600 0 R (by decide) (by decide) (by decide) (by decide) hs2 HR)
  clear hs hR
  go_enter Try.func8, Try.ntmps8
  go_wp2_with (go_at_call 25; refine (cF.out).mono ?_; rintro e w' ⟨rfl, rfl⟩)
  go_ret
  exact ⟨ret_bool HB2.out, hB⟩
end Go.Proofs.Ytgnhpjbkbefgpaa.tre
