/-
  What the exported functions of layer 6 answer, as plain functions, and what the chapter's example comes to. No function of the program is named here; no condition.
-/
import Derived.Test.YtcohjleolidngaaDoorLexVal
namespace Go.Proofs.YtcohjleolidngaaDoor
open Go.RowKit lex

/-- What Tokenize answers: tokens, line, error. -/
def tokE (l : List UInt8) : List Tok × Int × Int := if 16384 < l.length then ([], 0, 2) else tkz prL l 1 false
theorem tokE_small {l : List UInt8} (h : l.length ≤ 16384) : tokE l = tkz prL l 1 false := by unfold tokE; rw [if_neg (by omega)]
/-- The chapter's second example. -/
def exL : List Tok := [⟨1, [120], 0, 1⟩, ⟨5, [61], 0, 1⟩, ⟨3, [], -1500, 1⟩, ⟨5, [59], 0, 1⟩]
theorem ex_tok : tokE [120, 61, 45, 49, 46, 53, 59] = (exL, 0, 0) := by
  rw [tokE_small (by decide)]
  have o1 : oneL prL [120, 61, 45, 49, 46, 53, 59] = (⟨1, [120], 0, 0⟩, 1, 0) := by kernel_rfl
  have o2 : oneL prL [61, 45, 49, 46, 53, 59] = (⟨5, [61], 0, 0⟩, 1, 0) := by kernel_rfl
  have o3 : oneL prL [45, 49, 46, 53, 59] = (⟨3, [], -1500, 0⟩, 4, 0) := by kernel_rfl
  have o4 : oneL prL [59] = (⟨5, [59], 0, 0⟩, 1, 0) := by kernel_rfl
  rw [tkz_tok _ _ _ _ (by decide) (by decide) (by rw [o1]), o1]
  show comb _ (tkz prL [61, 45, 49, 46, 53, 59] 1 false) = _
  rw [tkz_tok _ _ _ _ (by decide) (by decide) (by rw [o2]), o2]
  show comb _ (comb _ (tkz prL [45, 49, 46, 53, 59] 1 false)) = _
  rw [tkz_tok _ _ _ _ (by decide) (by decide) (by rw [o3]), o3]
  show comb _ (comb _ (comb _ (tkz prL [59] 1 false))) = _
  rw [tkz_tok _ _ _ _ (by decide) (by decide) (by rw [o4]), o4]
  show comb _ (comb _ (comb _ (comb _ (tkz prL [] 1 false)))) = _
  rw [tkz_nil]
  rfl
theorem ex_name : isNm [110, 111, 100, 101, 95, 49] = true := by decide +kernel
theorem ex_node : isNm [110, 111, 100, 101] = false := by decide +kernel
end Go.Proofs.YtcohjleolidngaaDoor
