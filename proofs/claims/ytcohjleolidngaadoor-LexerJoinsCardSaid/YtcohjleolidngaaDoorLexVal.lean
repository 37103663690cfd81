/-
  Valid tokens, how they are written and joined: plain facts. No function of the program is named here; no condition.
-/
import Derived.Test.YtcohjleolidngaaDoorRefLex2
import Derived.Test.YtcohjleolidngaaDoorLexNum
import Derived.Test.YtcohjleolidngaaDoorToks
namespace Go.Proofs.YtcohjleolidngaaDoor
open Go.RowKit lex

theorem ba_list (l : List UInt8) : (ba l).data.toList = l := by simp
theorem ba_size (l : List UInt8) : (ba l).size = l.length := by rw [← size_list, ba_list]
theorem beq_dec (n : Int) : (n == 0) = decide (n = 0) := by rw [Bool.eq_iff_iff]; simp
/-- Whether a token is valid. -/
def valB (t : Tok) : Bool :=
  if t.kind = 1 then isNm t.text && decide (t.num = 0)
  else if t.kind = 2 then isKw t.text && decide (t.num = 0)
  else if t.kind = 3 then t.text.isEmpty && decide (-268435456 ≤ t.num) && decide (t.num ≤ 268435456)
  else if t.kind = 4 then decide (t.text.length ≤ 32) && t.text.all isPl && decide (t.num = 0)
  else if t.kind = 5 then isMk t.text && decide (t.num = 0)
  else false
theorem valB_iff (t : Tok) : valB t = true ↔ valT t := by
  obtain ⟨kind, text, num, line⟩ := t
  unfold valB valT
  simp only
  by_cases k1 : kind = 1
  · subst k1; simp
  by_cases k2 : kind = 2
  · subst k2; simp
  by_cases k3 : kind = 3
  · subst k3; simp [and_assoc]
  by_cases k4 : kind = 4
  · subst k4; simp [and_assoc]
  by_cases k5 : kind = 5
  · subst k5; simp
  · simp [k1, k2, k3, k4, k5]


theorem valB_num {kind num line : Int} {text : List UInt8} (h : valB ⟨kind, text, num, line⟩ = true) (hk : kind = 3) : -268435456 ≤ num ∧ num ≤ 268435456 := by
  rw [valB_iff] at h
  unfold valT at h
  simp only at h
  omega
theorem valB_str {kind num line : Int} {text : List UInt8} (h : valB ⟨kind, text, num, line⟩ = true) (hk : kind = 4) : quoE text = (quoL text, 0) := by
  rw [valB_iff] at h
  unfold valT at h
  simp only at h
  unfold quoE
  rcases h with ⟨e, _⟩ | ⟨e, _⟩ | ⟨e, _⟩ | ⟨_, h1, h2, _⟩ | ⟨e, _⟩ <;> first | omega | rw [if_neg (by omega), if_pos h2]


theorem take_ne {l : List Tok} {j : Nat} (h : 0 < j) (hl : 0 < l.length) : ¬ (l.take j).isEmpty = true := by
  have h5 : 0 < (l.take j).length := by rw [List.length_take]; omega
  cases e : l.take j with
  | nil => rw [e] at h5; simp at h5
  | cons a r => simp
/-- What Join answers: the text, the error. -/
def joinE (l : List Tok) : List UInt8 × Int := if l.all valB = false then ([], 1) else if 16384 < (joinL fmtL l).length then ([], 2) else (joinL fmtL l, 0)
theorem wrt_len (t : Tok) (h : t.text.length ≤ 200) (hv : valB t = true) : (wrt fmtL t).length ≤ 500 := by
  obtain ⟨kind, text, num, line⟩ := t
  unfold wrt
  simp only at h ⊢
  by_cases k3 : kind = 3
  · rw [if_pos k3]
    have := valB_num hv k3
    have := fmtL_le num (by omega) (by omega)
    omega
  · rw [if_neg k3]
    split
    · unfold quoL
      have := esc_len text
      simp only [List.length_cons, List.length_append, List.length_nil]
      omega
    · omega
theorem all_take {l : List Tok} {k : Nat} (hk : k < l.length) (h : (l.take k).all valB = true) (hv : valB (tokAt l k) = true) : (l.take (k + 1)).all valB = true := by
  rw [take_tok hk, List.all_append, h]; simp [hv]
theorem all_no {l : List Tok} {k : Nat} (hk : k < l.length) (hv : valB (tokAt l k) = false) : l.all valB = false := by
  rw [List.all_eq_false]; exact ⟨tokAt l k, tokAt_mem hk, by simp [hv]⟩
theorem all_at {l : List Tok} {k : Nat} (hk : k < l.length) (h : l.all valB = true) : valB (tokAt l k) = true := List.all_eq_true.1 h _ (tokAt_mem hk)


end Go.Proofs.YtcohjleolidngaaDoor
