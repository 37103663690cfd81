/-
  Slices of names in memory, as they are read and as a row that a loop appends to; has and the law's same. No condition.
-/
import Derived.Test.YtgnhpjbkbefgpaaTrees
import Derived.Laws.OwnMore
namespace Go.Proofs.Ytgnhpjbkbefgpaa.tre
open Go.RowKit lex

/-- A list of names as a slice holds it. -/
def Nl (w : World) (v : Value) (l : List (List UInt8)) : Prop := ∃ (ao : Option Addr) (cap : Nat), v = .slice ao l.length cap ∧ l.length ≤ cap ∧ cap ≤ maxLen ∧ (0 < l.length → ∃ A, ao = some A ∧ ∀ i (h : i < l.length), w.cell? (A.add i) = some (.string (bb l[i])))
theorem Nl.keep {w1 w2 : World} {v : Value} {l : List (List UInt8)} (h : Nl w1 v l) (hb : Below w1.heap.size w1 w2) : Nl w2 v l := by
  obtain ⟨ao, cap, rfl, hc, hm, hA⟩ := h
  exact ⟨ao, cap, rfl, hc, hm, fun hn => by obtain ⟨A, rfl, h2⟩ := hA hn; exact ⟨A, rfl, fun i hi => cell_later' hb (h2 i hi)⟩⟩
theorem Nl.get {w : World} {ao : Option Addr} {n cap : Nat} {l : List (List UInt8)} (h : Nl w (.slice ao n cap) l) {i : Nat} (hi : i < l.length) : ∃ A, ao = some A ∧ w.cell? (A.add i) = some (.string (bb l[i])) := by
  obtain ⟨ao', cap', e, _, _, hA⟩ := h
  cases e
  obtain ⟨A, rfl, h2⟩ := hA (by omega)
  exact ⟨A, rfl, h2 i hi⟩
def nmC (l : List (List UInt8)) : List Value := l.map fun x => .string (bb x)
/-- A slice of names that the call owns. -/
def Nrow (w : World) (B : Nat) (v : Value) (l : List (List UInt8)) : Prop := w.ownsRow B 9 1 v l.length (nmC l)
theorem Nrow.nl {w : World} {B : Nat} {v : Value} {l : List (List UInt8)} (h : Nrow w B v l) : Nl w v l := by
  have h0 := h
  rcases h.2 with ⟨rfl, hz⟩ | ⟨g, cap, cur, rfl, hg, hc, hcap, hm, h3⟩
  · obtain rfl : l = [] := List.eq_nil_of_length_eq_zero hz
    exact ⟨none, 0, rfl, Nat.le_refl _, by decide, fun h => absurd h (by simp)⟩
  · refine ⟨some ⟨g, 0, none⟩, cap, rfl, hcap, hm, fun _ => ⟨_, rfl, fun i hi => ?_⟩⟩
    have c := World.ownsRow.cells h0 (g := g) rfl
    exact c i _ (by unfold nmC; rw [List.getElem?_map, List.getElem?_eq_getElem hi]; rfl)
theorem bb_inj {a b : List UInt8} : bb a = bb b ↔ a = b := by
  constructor
  · intro h
    have := congrArg (fun x : ByteArray => x.data.toList) h
    simpa using this
  · intro h; rw [h]
set_option maxRecDepth 100000 in
set_option maxHeartbeats 8000000 in
theorem rhas_of (v : Value) (x : List UInt8) (l : List (List UInt8)) (r : Bool) (w : World) (h : Hid (Nl w v l)) (hr : Hid (l.contains x = r)) :
    Calls Try.prog 38 #[v, .string (bb x)] w fun e w' => e = .returned (.bool r) ∧ w = w' := by
  obtain ⟨ao, cap, rfl, hc, hm, _⟩ := id h.out
  unfold maxLen at hm
  have hlm : l.length ≤ 9223372036854775807 := by omega
  have HR : Hid ((l.drop 0).contains x = r) := Lib.hid (by rw [List.drop_zero]; exact hr.out)
  clear hc hm hr
  go_enter Try.func38, Try.ntmps38
  go_wp2_with fail
  go_loop [5] (fun iv => ∃ k : Nat, iv = .int .i64 k ∧ k ≤ l.length ∧ (l.drop k).contains x = r) (fun iv => l.length - (intOf iv).toNat)
  case atStart => exact ⟨0, rfl, Nat.zero_le _, HR.out⟩
  case round =>
    obtain ⟨k, rfl, hk, hfe⟩ := hrel
    have HFE := Lib.hid hfe
    clear hfe HR
    by_cases hlt : k < l.length
    · obtain ⟨A, rfl, hcell⟩ := h.out.get hlt
      have hst := HFE.out
      rw [List.drop_eq_getElem_cons hlt, List.contains_cons] at hst
      obtain ⟨y, hy⟩ : ∃ y, l[k] = y := ⟨_, rfl⟩
      rw [hy] at hst hcell
      have i0 : (0 : Int) ≤ (k : Int) := by omega
      have i1 : (k : Int) < (l.length : Int) := by omega
      clear hy HFE
      obtain ⟨X, hX⟩ : ∃ X, bb x = X := ⟨_, rfl⟩
      obtain ⟨Y, hY⟩ : ∃ Y, bb y = Y := ⟨_, rfl⟩
      have hX2 : X.toList = x := by rw [← hX, ByteArray.toList_eq]
      have hY2 : Y.toList = y := by rw [← hY, ByteArray.toList_eq]
      rw [hX]
      rw [hY] at hcell
      by_cases hxy : x = y
      · have b1 : (Y.toList == X.toList) = true := by rw [hX2, hY2, beq_iff_eq]; exact hxy.symm
        have HN : Hid (r = true) := Lib.hid (by rw [← hst]; simp [hxy])
        obtain rfl := HN.out
        clear hst hX hY hX2 hY2 hxy
        go_wp2
        go_ret
        exact ⟨rfl, rfl⟩
      · have b1 : (Y.toList == X.toList) = false := by rw [hX2, hY2, beq_eq_false_iff_ne]; exact fun e => hxy e.symm
        have HN : Hid ((l.drop (k + 1)).contains x = r) := Lib.hid (by rw [← hst]; simp [hxy])
        clear hst hX hY hX2 hY2 hxy
        go_wp2
        go_round
        case rel => exact ⟨k + 1, by go_num, by omega, HN.out⟩
        case measure => simp [intOf]; omega
    · obtain rfl : k = l.length := by omega
      have HN : Hid (r = false) := Lib.hid (by rw [← HFE.out, List.drop_length]; rfl)
      obtain rfl := HN.out
      go_wp2
      go_ret
      exact ⟨rfl, rfl⟩
end Go.Proofs.Ytgnhpjbkbefgpaa.tre
