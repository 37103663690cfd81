/-
  A list of attributes that comes in, as a statement hands it over. No condition.
-/
import Derived.Test.YtgccheiemnpaoaaGreatDoorTrees
namespace Go.Proofs.YtgccheiemnpaoaaGreatDoor.par
open Go.RowKit Go.Joins Go.ChangeAt Go.WideShapes Go.ChangeShapes lex tre

set_option maxRecDepth 100000 in
theorem open_attrs {H : Type} {enc : TypeId × Value → H} {w : World} {base : Nat} {spare : Nat → Bool} {held : Bool} {r : Reach} {b0 : Nat} {v : Value} {d : DataW H} {p : List MemPlace}
    (hv : Value.okWide Tryz.prog w r b0 35 v) (h : DataW.Trod enc Tryz.prog w base spare held 35 v d p) : ∃ l, Prs w v l := by
  obtain ⟨a0, len, cap, rfl⟩ := okWide_slice Tryz.underlying35 hv
  obtain ⟨fuel, hf⟩ := h
  obtain ⟨u, l, e, hp⟩ := open_prs Tryz.underlying35 Tryz.underlying63 (by kernel_rfl) ⟨rfl, rfl⟩ ⟨rfl, rfl⟩ hf
  simp [Value.cells] at e
  subst e
  exact ⟨l, hp⟩
end Go.Proofs.YtgccheiemnpaoaaGreatDoor.par
