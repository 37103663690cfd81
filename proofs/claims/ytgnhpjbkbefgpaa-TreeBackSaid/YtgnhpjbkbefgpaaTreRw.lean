/-
  What walk does with the visitor of Rename to a tree in blocks of its own: it renames the node, everywhere. Conditions: at most 600 statements; the two names lie before the tree.
-/
import Derived.Test.YtgnhpjbkbefgpaaTreOwn
namespace Go.Proofs.Ytgnhpjbkbefgpaa.tre
open Go.RowKit lex

theorem ref_att : (39 : TypeId) ≠ 70 := by decide
def inI (lo hi : Nat) (q : Nat) : Prop := lo ≤ q ∧ q < hi
def RwOut (a b : List UInt8) (l : List St) (lo hi : Nat) (v : Value) (W : World) (e : Ending) (w' : World) : Prop := e = .returned (.bool true) ∧ own w' (renL a b l) lo hi v ∧ Chg (inI lo hi) W w'
def RwOk (fb tb : Nat) (a b : List UInt8) (l : List St) : Prop := ∀ (lo hi : Nat) (v : Value) (lv : Int) (W : World), Hid (own W l lo hi v) → 0 ≤ lv → lv + cnt l ≤ 1000 → fb < lo → tb < lo → Hid (W.cell? ⟨fb, 0, none⟩ = some (.string (bb a))) → Hid (W.cell? ⟨tb, 0, none⟩ = some (.string (bb b))) →
  Calls Try.prog 28 #[v, .int .i64 lv, .func (.func 45) #[] #[.pointer (some ⟨fb, 0, none⟩), .pointer (some ⟨tb, 0, none⟩)]] W (RwOut a b l lo hi v W)
theorem RwOk.use {fb tb : Nat} {a b : List UInt8} {l : List St} (h : Hid (RwOk fb tb a b l)) {lo hi : Nat} {v : Value} {lv : Int} {W : World} (h1 : Hid (own W l lo hi v)) (h2 : 0 ≤ lv) (h3 : lv + cnt l ≤ 1000) (h4 : fb < lo) (h5 : tb < lo) (h6 : Hid (W.cell? ⟨fb, 0, none⟩ = some (.string (bb a)))) (h7 : Hid (W.cell? ⟨tb, 0, none⟩ = some (.string (bb b)))) :
    Calls Try.prog 28 #[v, .int .i64 lv, .func (.func 45) #[] #[.pointer (some ⟨fb, 0, none⟩), .pointer (some ⟨tb, 0, none⟩)]] W (RwOut a b l lo hi v W) := h.out lo hi v lv W h1 h2 h3 h4 h5 h6 h7
theorem renL_map (a b : List UInt8) (l : List St) : renL a b l = l.map (renS a b) := by
  induction l with
  | nil => rfl
  | cons s t ih => rw [renL_cons, List.map_cons, ih]
/-- One statement more is renamed: what the row holds then. -/
theorem own_next {a b : List UInt8} {l : List St} {lo hi k : Nat} {g cap : Nat} {arr arr' : Array Value} {wr w2 : World} (hk : k < l.length) (hbm : b.length ≤ maxLen) (hlo : lo ≤ g) (hc1 : l.length ≤ cap) (hc2 : cap ≤ maxLen) (hg2 : blk w2 g 43 arr')
    {m1 m2 lb hb : Nat} {rv av bv : Value} (hA : chain wr ((l.take k).map (renS a b)) (g + 1) m1 arr 0) (hlb : m1 ≤ lb) (hhb : hb ≤ m2)
    (e0 : arr[k * 5]? = some (.int .i64 l[k].kind)) (e2 : arr[k * 5 + 2]? = some rv) (e3 : arr[k * 5 + 3]? = some av) (e4 : arr[k * 5 + 4]? = some bv) (hnm : l[k].name.length ≤ maxLen)
    (hs : ∀ j, j ≠ k * 5 + 1 → arr'[j]? = arr[j]?) (h1 : arr'[k * 5 + 1]? = some (.string (bb (nmR l[k].kind a b l[k].name))))
    (hR : rowP w2 39 rv (l[k].refs.map (mpR a b)) (outI m1 m2 lb hb)) (hT : rowP wr 70 av l[k].attrs (outI m1 m2 lb hb)) (hO : own w2 (renL a b l[k].body) lb hb bv) (hD : chain wr (l.drop (k + 1)) m2 hi arr (k + 1))
    (hch : ∀ q, q ≠ g → ¬ (inI lb hb q) → ¬ (outI m1 m2 lb hb q ∧ ∃ x, blk wr q 39 x) → w2.heap[q]? = wr.heap[q]?) : own w2 (mix (renS a b) (k + 1) l) lo hi (.slice (some ⟨g, 0, none⟩) l.length cap) := by
  have hl1 := chain_le hA
  have hl2 := chain_le hD
  have hlo2 := hO.1
  have hle : lo ≤ hi := by omega
  refine ⟨hle, some ⟨g, 0, none⟩, cap, by rw [mix_len], by rw [mix_len]; exact hc1, hc2, fun _ => ⟨g, arr', rfl, hlo, hg2, ?_⟩⟩
  rw [(mix_next _ hk).2]
  have hlen : ((l.take k).map (renS a b)).length = k := by rw [List.length_map, List.length_take]; omega
  refine chain_app.2 ⟨m1, ?_, m2, rv, av, bv, ?_, ?_, ?_, ?_, ?_, ?_, ?_⟩
  · refine (own_far1 (W := wr) (a := g + 1) (b := m1) (fun q h1 h2 => hch q (by omega) (fun e => by have := e.1; omega) (fun e => by have := e.1.1; omega))).2 _ _ _ _ _ (Nat.le_refl _) (Nat.le_refl _) ?_
    exact chain_arr hA (fun j h1 h2 => hs j (by rw [hlen] at h2; omega))
  · rw [hlen, Nat.zero_add, hs _ (by omega), ren_kind]; exact e0
  · rw [hlen, Nat.zero_add, h1, ren_name]; rfl
  · rw [hlen, Nat.zero_add, hs _ (by omega)]; exact e2
  · rw [hlen, Nat.zero_add, hs _ (by omega)]; exact e3
  · rw [hlen, Nat.zero_add, hs _ (by omega)]; exact e4
  · refine (ownE_eq ..).2 ⟨?_, lb, hb, hlb, hhb, ?_, ?_, ?_⟩
    · rw [ren_name]
      unfold mp
      repeat' split
      all_goals assumption
    · rw [ren_refs]; exact hR
    · rw [ren_attrs]
      refine hT.keep' ?_
      intro g' x hg' hx
      exact hch g' (fun e => by have := hg'.1; omega) (fun e => hg'.2.2 e) (fun e => by
        obtain ⟨_, y, hy⟩ := e
        exact ref_att (blk_type hy hx).1)
    · rw [ren_body]; exact hO
  · rw [hlen, Nat.zero_add]
    refine (own_far1 (W := wr) (a := m2) (b := hi) (fun q h1 h2 => hch q (by omega) (fun e => by have := e.2; omega) (fun e => by have := e.1.2.1; omega))).2 _ _ _ _ _ (Nat.le_refl _) (Nat.le_refl _) ?_
    exact chain_arr hD (fun j h1 h2 => hs j (by omega))
end Go.Proofs.Ytgnhpjbkbefgpaa.tre
