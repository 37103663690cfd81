/-
  Plain facts on runes and bytes: how far the bytes of a kind reach at the beginning of a text, read by runes or by bytes. No function of the program is named here; no condition.
-/
import Derived.Test.YtcohjleolidngaaDoorLexSpec
import Derived.Shelf.Strings.FuncGrows
namespace Go.Proofs.YtcohjleolidngaaDoor
open Go.RowKit lex

theorem decN_hi (n b0 b1 b2 b3 : Nat) (h0 : 128 ≤ b0) (hn : 1 ≤ n) : 128 ≤ (Lib.decodeN n b0 b1 b2 b3).1 ∧ 1 ≤ (Lib.decodeN n b0 b1 b2 b3).2 ∧ (Lib.decodeN n b0 b1 b2 b3).2 ≤ n ∧
    (1 < (Lib.decodeN n b0 b1 b2 b3).2 → 128 ≤ b1) ∧ (2 < (Lib.decodeN n b0 b1 b2 b3).2 → 128 ≤ b2) ∧ (3 < (Lib.decodeN n b0 b1 b2 b3).2 → 128 ≤ b3) ∧ (Lib.decodeN n b0 b1 b2 b3).2 ≤ 4 := by
  unfold Lib.decodeN
  repeat' split
  all_goals (simp only; omega)
theorem get_at (s : ByteArray) (i : Nat) (h : i < s.size) : s.get! i = s[i] := by
  cases s with
  | mk d => exact getElem!_pos d i h
theorem dec_lo (s : ByteArray) (i : Nat) (h : i < s.size) (hb : s[i].toNat < 128) : Utf8.decode s i = (s[i].toNat, 1) := by
  rw [Lib.decode_at, get_at s i h]; unfold Lib.decodeN; rw [if_pos hb]
theorem dec_hi (s : ByteArray) (i : Nat) (h : i < s.size) (hb : 128 ≤ s[i].toNat) : 128 ≤ (Utf8.decode s i).1 ∧ 1 ≤ (Utf8.decode s i).2 ∧ i + (Utf8.decode s i).2 ≤ s.size ∧ ∀ j, j < (Utf8.decode s i).2 → ∀ c, s.data.toList[i + j]? = some c → 128 ≤ c.toNat := by
  rw [Lib.decode_at]
  obtain ⟨h1, h2, h3, h4, h5, h6, h7⟩ := decN_hi (s.size - i) (s.get! i).toNat (s.get! (i + 1)).toNat (s.get! (i + 2)).toNat (s.get! (i + 3)).toNat (by rw [get_at s i h]; exact hb) (by omega)
  refine ⟨h1, h2, by omega, fun j hj c hc => ?_⟩
  have hlt : i + j < s.size := by
    have := (List.getElem?_eq_some_iff.1 hc).1
    rwa [size_list] at this
  rw [dig_at' s (i + j) hlt] at hc
  obtain rfl := Option.some.inj hc
  rw [← get_at s (i + j) hlt]
  match j, hj with
  | 0, _ => rw [Nat.add_zero, get_at s i h]; exact hb
  | 1, hj => exact h4 hj
  | 2, hj => exact h5 hj
  | 3, hj => exact h6 hj
  | (j + 4), hj => omega
theorem tw_skip (p : UInt8 → Bool) : ∀ (k : Nat) (l : List UInt8), k ≤ l.length → (∀ j, j < k → ∀ c, l[j]? = some c → p c = true) → (l.takeWhile p).length = k + ((l.drop k).takeWhile p).length := by
  intro k
  induction k with
  | zero => intro l _ _; simp
  | succ k ih =>
    intro l hk h
    cases l with
    | nil => simp at hk
    | cons a t =>
      have ha : p a = true := h 0 (by omega) a rfl
      rw [List.takeWhile_cons, ha]
      show (t.takeWhile p).length + 1 = _
      rw [ih t (by simpa using hk) (fun j hj c hc => h (j + 1) (by omega) c (by simpa using hc)), List.drop_succ_cons]
      omega
theorem tw_zero (p : UInt8 → Bool) (l : List UInt8) (c : UInt8) (h : l.head? = some c) (hp : p c = false) : (l.takeWhile p).length = 0 := by
  cases l with
  | nil => cases h
  | cons a t => obtain rfl := Option.some.inj h; rw [List.takeWhile_cons, hp]; rfl

/-- A kind of runes that is a kind of bytes: it tells the first 128 apart, and takes all others or none. -/
structure ByBytes (p : Nat → Bool) (q : UInt8 → Bool) : Prop where
  low : ∀ b : UInt8, b.toNat < 128 → p b.toNat = q b
  high : ∃ v, (∀ r, 128 ≤ r → p r = v) ∧ ∀ b : UInt8, 128 ≤ b.toNat → q b = v

theorem idx_from {p : Nat → Bool} {q : UInt8 → Bool} (H : ByBytes p q) (s : ByteArray) : ∀ (f pos : Nat), s.size ≤ pos + f → pos ≤ s.size →
    Lib.idxFuncFrom p false s f pos = if ((s.data.toList.drop pos).takeWhile q).length = s.size - pos then -1 else ((pos + ((s.data.toList.drop pos).takeWhile q).length : Nat) : Int) := by
  obtain ⟨v, hv1, hv2⟩ := H.high
  intro f
  induction f with
  | zero =>
    intro pos h1 h2
    have e : pos = s.size := by omega
    rw [Lib.idxFuncFrom_end p false s 0 pos (by omega), drop_end (by omega), if_pos (by rw [e]; simp)]
  | succ f ih =>
    intro pos h1 h2
    by_cases hlt : pos < s.size
    · unfold Lib.idxFuncFrom
      rw [if_pos hlt]
      have hL : (s.data.toList.drop pos).length = s.size - pos := by rw [List.length_drop, size_list]
      have hh : (s.data.toList.drop pos).head? = some s[pos] := by rw [List.head?_drop]; exact dig_at' s pos hlt
      by_cases hb : s[pos].toNat < 128
      · rw [dec_lo s pos hlt hb]
        simp only
        rw [H.low _ hb]
        by_cases hq : q s[pos] = false
        · rw [if_pos hq, tw_zero q _ _ hh hq, if_neg (by omega)]; rfl
        · rw [if_neg hq]
          simp only [Bool.not_eq_false] at hq
          rw [ih (pos + 1) (by omega) (by omega), drop_at hlt, List.takeWhile_cons, hq]
          have e : (if true = true then s[pos] :: (List.drop (pos + 1) s.data.toList).takeWhile q else []).length = ((List.drop (pos + 1) s.data.toList).takeWhile q).length + 1 := rfl
          rw [e]
          generalize ((List.drop (pos + 1) s.data.toList).takeWhile q).length = n
          by_cases hn : n = s.size - (pos + 1)
          · rw [if_pos hn, if_pos (by omega)]
          · rw [if_neg hn, if_neg (by omega)]; congr 1; omega
      · obtain ⟨d1, d2, d3, d4⟩ := dec_hi s pos hlt (by omega)
        rw [hv1 _ d1]
        have hq := hv2 s[pos] (by omega)
        cases v
        · rw [if_pos rfl, tw_zero q _ _ hh hq, if_neg (by omega)]; rfl
        · rw [if_neg (by simp), ih _ (by omega) (by omega)]
          rw [tw_skip q (Utf8.decode s pos).2 (s.data.toList.drop pos) (by omega) (fun j hj c hc => hv2 c (d4 j hj c (by rw [List.getElem?_drop] at hc; exact hc))), List.drop_drop]
          generalize ((List.drop (pos + (Utf8.decode s pos).2) s.data.toList).takeWhile q).length = n
          generalize (Utf8.decode s pos).2 = k at d2 d3 ⊢
          by_cases hn : n = s.size - (pos + k)
          · rw [if_pos hn, if_pos (by omega)]
          · rw [if_neg hn, if_neg (by omega)]; congr 1; omega
    · have e : pos = s.size := by omega
      rw [Lib.idxFuncFrom_end p false s (f + 1) pos (by omega), drop_end (by omega), if_pos (by rw [e]; simp)]
/-- What is left when such runes are taken off the beginning. -/
theorem trim_left {p : Nat → Bool} {q : UInt8 → Bool} (H : ByBytes p q) (s : ByteArray) : (Lib.trimLeftF p s).size = s.size - (s.data.toList.takeWhile q).length := by
  have h := idx_from H s s.size 0 (by omega) (Nat.zero_le _)
  rw [List.drop_zero] at h
  have hle := takeWhile_le q s.data.toList
  rw [size_list] at hle
  unfold Lib.trimLeftF
  change Lib.idxFunc p false s = _ at h
  rw [h]
  by_cases hn : (s.data.toList.takeWhile q).length = s.size - 0
  · rw [if_pos hn, if_pos rfl]; show 0 = _; omega
  · rw [if_neg hn, if_neg (by omega), ← size_list, drop_extract, List.length_drop, size_list]
    congr 1
    omega

/-! ### The kinds of the lexer -/
def digN (x : Nat) : Bool := decide (48 ≤ x ∧ x ≤ 57)
def wdN (x : Nat) : Bool := decide (97 ≤ x ∧ x ≤ 122) || decide (65 ≤ x ∧ x ≤ 90) || decide (x = 95) || digN x
def nbN (x : Nat) : Bool := wdN x || decide (x = 46)
def plN (x : Nat) : Bool := decide (32 ≤ x ∧ x ≤ 126)
def esN (x : Nat) : Bool := decide (x = 34 ∨ x = 92)
def nlN (x : Nat) : Bool := decide (x ≠ 10)
def isNl (c : UInt8) : Bool := decide (c.toNat ≠ 10)
theorem wd_by : ByBytes wdN isWd := ⟨fun b _ => rfl, false, fun r h => by simp [wdN, digN]; omega, fun b h => by simp [isWd, isLet, isDgt]; omega⟩
theorem nb_by : ByBytes nbN isNb := ⟨fun b _ => rfl, false, fun r h => by simp [nbN, wdN, digN]; omega, fun b h => by simp [isNb, isWd, isLet, isDgt]; omega⟩
theorem nl_by : ByBytes nlN isNl := ⟨fun b _ => rfl, true, fun r h => by simp [nlN]; omega, fun b h => by simp [isNl]; omega⟩
end Go.Proofs.YtcohjleolidngaaDoor
