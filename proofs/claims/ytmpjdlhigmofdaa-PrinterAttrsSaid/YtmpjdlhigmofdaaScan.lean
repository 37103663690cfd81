/-
  Plain facts on how the reference reads the form of a number, letter by letter. No program is named here; no condition.
-/
import Derived.Test.YtmpjdlhigmofdaaForm
namespace Go.Proofs.Ytmpjdlhigmofdaa

/-- What the reference knows behind i letters: no point yet, or the point's place. -/
def Scan (t : List UInt8) (i dt : Nat) : Prop :=
  (i ≤ (lead t).length ∧ dt = t.length) ∨ ((lead t).length < i ∧ dt = (lead t).length ∧ t[(lead t).length]? = some 46 ∧ ((t.drop ((lead t).length + 1)).take (i - ((lead t).length + 1))).all isDig = true)

theorem Scan.start (t : List UInt8) : Scan t 0 t.length := Or.inl ⟨Nat.zero_le _, rfl⟩

theorem lead_in {t : List UInt8} {i : Nat} {c : UInt8} (h : i < (lead t).length) (hc : t[i]? = some c) : isDig c = true := by
  have e := lead_eq_take t
  have : (lead t)[i]? = some c := by
    rw [e, List.getElem?_take, if_pos h]
    exact hc
  exact lead_all t c (List.mem_of_getElem? this)

theorem Scan.le {t : List UInt8} {i dt : Nat} (h : Scan t i dt) : dt ≤ t.length := by
  rcases h with ⟨_, h⟩ | ⟨_, h, _, _⟩
  · omega
  · rw [h]; exact lead_length t

theorem Scan.digit {t : List UInt8} {i dt : Nat} {c : UInt8} (h : Scan t i dt) (hc : t[i]? = some c) (hd : isDig c = true) : Scan t (i + 1) dt := by
  rcases h with ⟨h1, h2⟩ | ⟨h1, h2, h3, h4⟩
  · left
    refine ⟨?_, h2⟩
    rcases Nat.lt_or_ge i (lead t).length with h | h
    · omega
    · obtain rfl : i = (lead t).length := by omega
      have := lead_stop t c hc
      rw [hd] at this
      cases this
  · right
    refine ⟨by omega, h2, h3, ?_⟩
    have hi : i < t.length := by
      rcases Nat.lt_or_ge i t.length with h | h
      · exact h
      · rw [List.getElem?_eq_none h] at hc; cases hc
    have e : i + 1 - ((lead t).length + 1) = (i - ((lead t).length + 1)) + 1 := by omega
    rw [e, take_snoc _ _ (by rw [List.length_drop]; omega), List.all_append, h4]
    have hx : (t.drop ((lead t).length + 1))[i - ((lead t).length + 1)]'(by rw [List.length_drop]; omega) = c := by
      have h5 : (t.drop ((lead t).length + 1))[i - ((lead t).length + 1)]? = some c := by
        rw [List.getElem?_drop, show (lead t).length + 1 + (i - ((lead t).length + 1)) = i by omega]
        exact hc
      rw [List.getElem?_eq_getElem (by rw [List.length_drop]; omega)] at h5
      exact Option.some.inj h5
    rw [hx]
    simp [hd]

theorem Scan.point {t : List UInt8} {i : Nat} (h : Scan t i t.length) (hc : t[i]? = some 46) : Scan t (i + 1) i := by
  have hi : i < t.length := by
    rcases Nat.lt_or_ge i t.length with h | h
    · exact h
    · rw [List.getElem?_eq_none h] at hc; cases hc
  rcases h with ⟨h1, _⟩ | ⟨h1, h2, _, _⟩
  · have : i = (lead t).length := by
      rcases Nat.lt_or_ge i (lead t).length with h | h
      · have := lead_in h hc
        cases this
      · omega
    right
    subst this
    refine ⟨by omega, rfl, hc, ?_⟩
    rw [Nat.sub_self]
    rfl
  · omega

theorem drop_head {t : List UInt8} {k : Nat} {c : UInt8} (h : t[k]? = some c) : t.drop k = c :: t.drop (k + 1) := by
  have hk : k < t.length := by
    rcases Nat.lt_or_ge k t.length with h2 | h2
    · exact h2
    · rw [List.getElem?_eq_none h2] at h; cases h
  rw [List.drop_eq_getElem_cons hk]
  rw [List.getElem?_eq_getElem hk] at h
  rw [Option.some.inj h]

theorem Scan.bad {t : List UInt8} {i dt : Nat} {c : UInt8} (h : Scan t i dt) (hc : t[i]? = some c) (hd : isDig c = false) (hp : ¬ (c = 46 ∧ dt = t.length)) : fracOf (t.drop (lead t).length) = none := by
  rcases h with ⟨h1, h2⟩ | ⟨h1, h2, h3, h4⟩
  · have : i = (lead t).length := by
      rcases Nat.lt_or_ge i (lead t).length with h | h
      · have := lead_in h hc
        rw [hd] at this
        cases this
      · omega
    subst this
    rw [drop_head hc]
    exact if_neg fun h => hp ⟨h.1, h2⟩
  · rw [drop_head h3]
    refine if_neg fun h => ?_
    have := List.all_eq_true.1 h.2.2.2.1 c (List.mem_of_getElem? (i := i - ((lead t).length + 1)) (by rw [List.getElem?_drop, show (lead t).length + 1 + (i - ((lead t).length + 1)) = i by omega]; exact hc))
    rw [hd] at this
    cases this

/-- Behind the last letter: only digits, or a point and only digits behind it. -/
theorem Scan.done {t : List UInt8} {dt : Nat} (h : Scan t t.length dt) : (dt = t.length ∧ lead t = t) ∨ (dt < t.length ∧ dt = (lead t).length ∧ t.drop (lead t).length = 46 :: t.drop (dt + 1) ∧ (t.drop (dt + 1)).all isDig = true) := by
  rcases h with ⟨h1, h2⟩ | ⟨h1, h2, h3, h4⟩
  · left
    refine ⟨h2, ?_⟩
    rw [lead_eq_take t, List.take_of_length_le h1]
  · right
    refine ⟨by omega, h2, ?_, ?_⟩
    · rw [h2]; exact drop_head h3
    · rw [h2]
      rw [List.take_of_length_le (by rw [List.length_drop]; omega)] at h4
      exact h4
end Go.Proofs.Ytmpjdlhigmofdaa
