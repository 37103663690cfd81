/-
  Numbers as tokens: the text of n thousandths has the form of a number and is read back; what Parse answers, as a pair. No function of the program is named here; no condition.
-/
import Derived.Test.YtcdoicgbjoikkaaGreatDoorMac
import Derived.Test.YtcdoicgbjoikkaaGreatDoorMaa
namespace Go.Proofs.YtcdoicgbjoikkaaGreatDoor.lex
open Go.RowKit

theorem lead_app (w f : List UInt8) (hw : w.all isDig = true) (hf : f = [] ∨ f.head? = some 46) : lead (w ++ f) = w := by
  have h := lead_take (w ++ f) w.length (by simp) (by rw [List.take_left']; exact hw; rfl) (fun c hc => by
    rw [List.getElem?_append_right (Nat.le_refl _), Nat.sub_self] at hc
    rcases hf with rfl | hf
    · cases hc
    · rw [← List.head?_eq_getElem?, hf] at hc
      rw [← Option.some.inj hc]; rfl)
  rw [h, List.take_left' rfl]

/-- What Parse answers to the text of n thousandths. -/
theorem fmt_parse (n : Int) : parseV (fmtL n) = if 268435456 < n.natAbs then ovfV else .tuple #[.int .i64 n, .int .i64 0] := by
  obtain ⟨V, hV⟩ : ∃ V, n.natAbs / 1000 = V := ⟨_, rfl⟩
  obtain ⟨p, hp⟩ : ∃ p, n.natAbs % 1000 = p := ⟨_, rfl⟩
  have hm : n.natAbs = V * 1000 + p := by omega
  have hp9 : p ≤ 999 := by omega
  rw [fmtL_eq n V p hm hp9]
  obtain ⟨f, hf⟩ : ∃ f, (if p = 0 then [] else 46 :: Lib.trimRightB ((Lib.decDigits (1000 + p)).drop 1) 48 : List UInt8) = f := ⟨_, rfl⟩
  rw [hf]
  have hs := dec_spec V
  have hfr : fracOf f = some p := by
    rw [← hf]
    split
    · rename_i h; rw [h]; rfl
    · rename_i h; exact frac_back p (by omega) hp9
  have hfh : f = [] ∨ f.head? = some 46 := by
    rw [← hf]
    split
    · exact Or.inl rfl
    · exact Or.inr rfl
  have hfn : f = [] → p = 0 := by
    intro h
    rw [h] at hfr
    exact (Option.some.inj hfr).symm
  obtain ⟨w, hw⟩ : ∃ w, Lib.decDigits V = w := ⟨_, rfl⟩
  rw [hw] at hs ⊢
  obtain ⟨h1, h2, h3, h4⟩ := hs
  have hL := lead_app w f h2 hfh
  have hD : (w ++ f).drop (lead (w ++ f)).length = f := by rw [hL]; exact List.drop_left' rfl
  have hhead : (w ++ f).head? = w.head? := by
    cases w with
    | nil => exact absurd rfl h3
    | cons a l => rfl
  have hdig : ∀ c, (w ++ f).head? = some c → isDig c = true := by
    intro c hc
    rw [hhead] at hc
    cases w with
    | nil => cases hc
    | cons a l =>
      rw [List.all_cons, Bool.and_eq_true] at h2
      rw [← Option.some.inj hc]
      exact h2.1
  have hgood : ∀ neg : Bool, (neg = true → n < 0) → ¬ ((lead (w ++ f)).length = 0 ∨ (1 < (lead (w ++ f)).length ∧ (w ++ f).head? = some 48) ∨ (neg = true ∧ w ++ f = [48])) := by
    rintro neg hn (h | h | h)
    · rw [hL] at h; exact h3 (List.length_eq_zero_iff.1 h)
    · rw [hL, hhead] at h; exact h4 h.1 h.2
    · have hneg := hn h.1
      have hwf := h.2
      cases w with
      | nil => exact h3 rfl
      | cons a l =>
        rw [List.cons_append, List.cons.injEq] at hwf
        have hlf := List.append_eq_nil_iff.1 hwf.2
        have hp0 := hfn hlf.2
        have hv0 : V = 0 := by rw [← h1, hwf.1, hlf.1]; rfl
        omega
  by_cases hn : n < 0
  · rw [if_pos hn, List.append_assoc]
    have e : parseV ([45] ++ (w ++ f)) = parseT true (w ++ f) := rfl
    rw [e, parseT_some (hgood true (fun _ => hn)) (by rw [hD]; exact hfr), hL, h1, ← hm]
    split
    · rfl
    · simp only [if_true]
      rw [show -((n.natAbs : Nat) : Int) = n by omega]
  · rw [if_neg hn, List.nil_append]
    have e : parseV (w ++ f) = parseT false (w ++ f) := by
      unfold parseV
      rw [if_neg]
      intro h
      have := hdig 45 h
      cases this
    rw [e, parseT_some (hgood false (fun h => by cases h)) (by rw [hD]; exact hfr), hL, h1, ← hm]
    split
    · rfl
    · simp only [Bool.false_eq_true, if_false]
      rw [show ((n.natAbs : Nat) : Int) = n by omega]

/-- What Parse answers, as a pair. -/
def numAt : Option Value → Int
  | some (.int _ n) => n
  | _ => 0
def prL (l : List UInt8) : Int × Int := match parseV l with
  | .tuple vs => (numAt vs[0]?, numAt vs[1]?)
  | _ => (0, 4)
theorem prL_of {l : List UInt8} {n e : Int} (h : parseV l = .tuple #[.int .i64 n, .int .i64 e]) : prL l = (n, e) := by unfold prL; rw [h]; rfl
theorem parseV_pr (l : List UInt8) : parseV l = .tuple #[.int .i64 (prL l).1, .int .i64 (prL l).2] := by
  rcases parseV_ways l with h | h | ⟨n, h, _⟩
  · rw [prL_of (n := 0) (e := 4) h]; exact h
  · rw [prL_of (n := 0) (e := 16) h]; exact h
  · rw [prL_of h]; exact h
theorem prL_fmt (n : Int) (h0 : -268435456 ≤ n) (h1 : n ≤ 268435456) : prL (fmtL n) = (n, 0) :=
  prL_of (by rw [fmt_parse, if_neg (by omega)])
theorem prL_range (l : List UInt8) (h : (prL l).2 = 0) : -268435456 ≤ (prL l).1 ∧ (prL l).1 ≤ 268435456 := by
  rcases parseV_ways l with e | e | ⟨n, e, h1, h2, _⟩
  · rw [prL_of (n := 0) (e := 4) e] at h; cases h
  · rw [prL_of (n := 0) (e := 16) e] at h; cases h
  · rw [prL_of e]; exact ⟨h1, h2⟩
end Go.Proofs.YtcdoicgbjoikkaaGreatDoor.lex
