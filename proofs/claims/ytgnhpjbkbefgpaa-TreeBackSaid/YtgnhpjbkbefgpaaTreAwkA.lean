/-
  What awake of the statements of layer 7 answers, over the premise that the code answers as its plain functions say.
-/
import Derived.Test.YtgnhpjbkbefgpaaTreOk
namespace Go.Proofs.Ytgnhpjbkbefgpaa.tre
open Go.RowKit lex

def T1 : Tr := ⟨[103], false, [.mk 2 [] [([97], []), ([98], [])] [] []]⟩
def T2 : Tr := ⟨[103], false, [.mk 2 [] [([97], [])] [] []]⟩
def T3 : Tr := ⟨[103], false, [.mk 1 [110, 111, 100, 101] [] [] []]⟩
def T4 : Tr := ⟨[103], false, [.mk 2 [] [([99], []), ([98], [])] [] []]⟩
theorem few1 : few T1.body = true := by simp [few, stmT, stmL_cons, stmL_nil, St.refs, St.attrs, St.body, T1]
theorem few2 : few T2.body = true := by simp [few, stmT, stmL_cons, stmL_nil, St.refs, St.attrs, St.body, T2]
theorem few3 : few T3.body = true := by simp [few, stmT, stmL_cons, stmL_nil, St.refs, St.attrs, St.body, T3]
theorem few4 : few T4.body = true := by simp [few, stmT, stmL_cons, stmL_nil, St.refs, St.attrs, St.body, T4]
theorem val1 : validT T1 = 0 := by decide
theorem val2 : validT T2 = 1 := by decide
theorem val3 : validT T3 = 5 := by decide
theorem ren1 : renE T1 [97] [98] = 6 := by decide
theorem ren2 : renE T1 [97] [99] = 0 := by decide
theorem out2 : renO T1 [97] [99] = T4 := by unfold renO; rw [if_pos ren2]; rfl
theorem cnt1 : (cnt T1.body : Int) = 1 := by decide
theorem nms1 : namesT T1 = [[97], [98]] := by decide
theorem nms4 : namesT T4 = [[99], [98]] := by decide
theorem add0 (b n : Nat) : (⟨b, 0, none⟩ : Addr).add (0 * n) = ⟨b, 0, none⟩ := by rw [Nat.zero_mul]; rfl
/-- A list of one statement in a block of its own. -/
theorem sts_one' {w : World} {b : Nat} {k : Int} {n : List UInt8} {rv av bv : Value} {r a : List Pr} {bd : List St} (h : at5 w b k (bb n) rv av bv) (hn : n.length ≤ maxLen) (hr : Prs w rv r) (ha : Prs w av a) (hb : Sts w bv bd) :
    Sts w (.slice (some ⟨b, 0, none⟩) 1 1) [.mk k n r a bd] := by
  obtain ⟨h0, h1, h2, h3, h4⟩ := h
  refine ⟨some ⟨b, 0, none⟩, 1, rfl, Nat.le_refl _, by decide, fun _ => ⟨_, rfl, ?_, trivial⟩⟩
  rw [add0]
  exact (stAt_eq _ _ _).2 ⟨h0, h1, hn, ⟨rv, h2, hr⟩, ⟨av, h3, ha⟩, bv, h4, hb⟩
theorem prs_one' (w : World) (x y : List UInt8) (t : TypeId) (hx : x.length ≤ maxLen) (hy : y.length ≤ maxLen) : Prs (w.alloc (.cells #[.string (bb x), .string (bb y)] t)) (.slice (some ⟨w.heap.size, 0, none⟩) 1 1) [(x, y)] := by
  refine ⟨some ⟨w.heap.size, 0, none⟩, 1, rfl, Nat.le_refl _, by decide, fun _ => ⟨_, rfl, fun i hi => ?_⟩⟩
  obtain rfl : i = 0 := by simpa using hi
  unfold prAt
  rw [add0]
  refine ⟨?_, ?_, hx, hy⟩ <;> go_simp <;> rfl
theorem prs_two (w : World) (x y z u : List UInt8) (t : TypeId) (hx : x.length ≤ maxLen) (hy : y.length ≤ maxLen) (hz : z.length ≤ maxLen) (hu : u.length ≤ maxLen) : Prs (w.alloc (.cells #[.string (bb x), .string (bb y), .string (bb z), .string (bb u)] t)) (.slice (some ⟨w.heap.size, 0, none⟩) 2 2) [(x, y), (z, u)] := by
  refine ⟨some ⟨w.heap.size, 0, none⟩, 2, rfl, Nat.le_refl _, by decide, fun _ => ⟨_, rfl, fun i hi => ?_⟩⟩
  have hi2 : i < 2 := hi
  obtain rfl | rfl : i = 0 ∨ i = 1 := by omega
  · unfold prAt
    rw [add0]
    refine ⟨?_, ?_, hx, hy⟩ <;> go_simp <;> rfl
  · unfold prAt
    rw [show (⟨w.heap.size, 0, none⟩ : Addr).add (1 * 2) = ⟨w.heap.size, 2, none⟩ from rfl]
    refine ⟨?_, ?_, hz, hu⟩ <;> go_simp <;> rfl
theorem nl_two (w : World) (x y : List UInt8) (t : TypeId) : Nl (w.alloc (.cells #[.string (bb x), .string (bb y)] t)) (.slice (some ⟨w.heap.size, 0, none⟩) 2 2) [x, y] := by
  refine ⟨some ⟨w.heap.size, 0, none⟩, 2, rfl, Nat.le_refl _, by decide, fun _ => ⟨_, rfl, fun i hi => ?_⟩⟩
  have hi2 : i < 2 := hi
  obtain rfl | rfl : i = 0 ∨ i = 1 := by omega
  · go_simp
  · rw [show (⟨w.heap.size, 0, none⟩ : Addr).add 1 = ⟨w.heap.size, 1, none⟩ from rfl]; go_simp
end Go.Proofs.Ytgnhpjbkbefgpaa.tre
