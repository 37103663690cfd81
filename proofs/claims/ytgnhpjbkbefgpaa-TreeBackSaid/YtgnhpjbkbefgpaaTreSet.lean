/-
  A set of names as a map from strings to bools that the call made: what a look-up gives and what a store leaves. No condition but a text's length.
-/
import Derived.Test.YtgnhpjbkbefgpaaTreCCl
import Derived.Maps.OwnOps
import Derived.Maps.Views
namespace Go.Proofs.Ytgnhpjbkbefgpaa.tre
open Go.RowKit Go.Shelf Go.ChangeMaps Go.MapKept lex

abbrev DU := DataW Unit
/-- Block b is a map that holds true at the names of C, and nothing else. -/
def mSet (W : World) (b : Nat) (C : List (List UInt8)) : Prop := ∃ (n : Nat) (D : DU), W.ownsMap Try.prog 9 (plainElem Try.prog 4) b n D ∧ n ≤ C.length ∧ Maps.IsMap D ∧ ∀ x : List UInt8, D.atKey (.string x) (.lit (.bool false)) = .lit (.bool (C.contains x))
theorem mSet_made (w : World) : mSet (w.alloc (.map #[] 0)) w.heap.size [] :=
  ⟨0, _, World.ownsMap_made w _ _ _, Nat.le_refl _, Maps.isMap_empty, fun _ => rfl⟩
theorem mSet_kept {w w' : World} {b : Nat} {C : List (List UInt8)} {row : Option Nat} (h : mSet w b C) (hg : w.grownBy w' row) (hne : some b ≠ row) : mSet w' b C := by
  obtain ⟨n, D, h1, h2, h3, h4⟩ := h; exact ⟨n, D, h1.kept hg hne, h2, h3, h4⟩
theorem mSet_keep {w w' : World} {b : Nat} {C : List (List UInt8)} (h : mSet w b C) (hb : Below w.heap.size w w') : mSet w' b C :=
  mSet_kept (row := none) h ⟨hb.os, hb.tape, hb.output, hb.size, fun k hk _ => hb.block k hk⟩ (by simp)
theorem mSet_lt {w : World} {b : Nat} {C : List (List UInt8)} (h : mSet w b C) : b < w.heap.size := by
  obtain ⟨n, D, h1, _⟩ := h; exact h1.lt
theorem plain_bool_inv {v : Value} {q : Bool} {ps : List MemPlace} (h : plainElem (H := Unit) Try.prog 4 v = some (.lit (.bool q), ps)) : v = .bool q := by
  unfold plainElem at h
  rw [Try.underlying4] at h
  cases v <;> simp at h
  rw [h.1]
theorem mSet_look {w : World} {b : Nat} {C : List (List UInt8)} (h : mSet w b C) (s : ByteArray) (hs : s.size ≤ maxLen) :
    (Instr.lookup 55 (.map (some b)) (.string s) false).run Try.prog w = .ok (.bool (C.contains s.data.toList)) w := by
  obtain ⟨n, D, h1, _, _, h4⟩ := h
  obtain ⟨v, ps, hrun, hv⟩ := h1.lookup (Maps.string_keyed Try.underlying9) Try.underlying55 (Try.zeroValue4 w) (plainElem_bool Try.underlying4 false) (WideMaps.keyOf_string_mk Try.underlying9 hs)
  rw [h4] at hv
  rw [hrun, plain_bool_inv hv]
theorem mSet_put {w : World} {b : Nat} {C : List (List UInt8)} (h : mSet w b C) (s : ByteArray) (hs : s.size ≤ maxLen) (hC : C.length < maxLen) :
    ∃ w', (Instr.mapUpdate 55 (.map (some b)) (.string s) (.bool true)).run Try.prog w = .ok () w' ∧ mSet w' b (C ++ [s.data.toList]) ∧ w.grownBy w' (some b) := by
  obtain ⟨n, D, h1, h2, h3, h4⟩ := h
  obtain ⟨w', hrun, h5, h6⟩ := h1.update (Maps.string_keyed Try.underlying9) Try.underlying55 (by omega) (WideMaps.keyOf_string_mk Try.underlying9 hs) (plainElem_bool Try.underlying4 true)
  refine ⟨w', hrun, ⟨n + 1, _, h5, by rw [List.length_append]; simp; omega, h3.put _ _, fun x => ?_⟩, h6⟩
  by_cases hx : x = s.data.toList
  · subst hx
    rw [Maps.atKey_put_same h3 (by trivial)]
    simp
  · rw [Maps.atKey_put_other (by intro e; injection e with e; exact hx e), h4]
    congr 2
    rw [Bool.eq_iff_iff]; simp [hx]
end Go.Proofs.Ytgnhpjbkbefgpaa.tre
