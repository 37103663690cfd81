/-
  The functions of package poly at named answers; lists written out. Condition: the lists are no longer than a list can be.
-/
import Derived.Test.YtllhdalfhhjigaaHas
import Derived.Test.YtllhdalfhhjigaaLen
import Derived.Test.YtllhdalfhhjigaaCross
import Derived.Test.YtllhdalfhhjigaaCount
import Derived.Test.YtllhdalfhhjigaaBounds
import Derived.Test.YtllhdalfhhjigaaSimp
import Derived.Test.YtllhdalfhhjigaaSame
namespace Go.Proofs.Ytllhdalfhhjigaa
open Go.RowKit

section
variable (ao : Option Addr) (cap n : Nat) (pts : List Pt) (hn : pts.length = n) (hlen : pts.length ≤ maxLen) (w : World) (hP : Pl w (.slice ao n cap) pts)
include hn hlen hP
theorem pvalid_at (v : Bool) (h : Hid (pval pts = v)) : Calls Try.prog 9 #[.slice ao n cap] w fun e W' => e = .returned (.bool v) ∧ Below w.heap.size w W' := by
  subst hn; exact pvalid_of ao cap pts v hlen w hP h
theorem ortho_at (v : Bool) (h : Hid (ortB pts = v)) : Calls Try.prog 17 #[.slice ao n cap] w fun e W' => e = .returned (.bool v) ∧ Below w.heap.size w W' := by
  subst hn; exact orthogonal_of ao cap pts v hlen w hP h
theorem length_at (v : Int) (h : Hid (lenV pts = v)) : Calls Try.prog 11 #[.slice ao n cap] w fun e W' => e = .returned (.int .i64 v) ∧ Below w.heap.size w W' := by
  subst hn; have := length_any ao cap pts hlen w hP; rw [h.out] at this; exact this
theorem bends_at (v : Int) (h : Hid (bndV pts = v)) : Calls Try.prog 15 #[.slice ao n cap] w fun e W' => e = .returned (.int .i64 v) ∧ Below w.heap.size w W' := by
  subst hn; have := bendsN_any ao cap pts hlen w hP; rw [h.out] at this; exact this
theorem bounds_at (b0 b1 b2 b3 : Int) (h : Hid (bdV pts = (b0, b1, b2, b3))) : Calls Try.prog 13 #[.slice ao n cap] w fun e W' => e = .returned (.agg #[.int .i64 b0, .int .i64 b1, .int .i64 b2, .int .i64 b3]) ∧ Below w.heap.size w W' := by
  subst hn; exact bounds_of ao cap pts b0 b1 b2 b3 hlen w hP h
theorem simplify_at (r : List Pt) (h : Hid (simp4 pts = r)) : Calls Try.prog 20 #[.slice ao n cap] w fun e W' => ∃ so sc, e = .returned (.slice so r.length sc) ∧ Pl W' (.slice so r.length sc) r ∧ Below w.heap.size w W' := by
  subst hn
  have := simplify_any ao cap pts hlen w hP
  rw [h.out] at this
  refine this.mono ?_
  rintro e W' ⟨v', rfl, hp, hb⟩
  obtain ⟨so, sc, rfl, hx⟩ := hp
  exact ⟨so, sc, rfl, ⟨so, sc, rfl, hx⟩, hb⟩
variable (bo : Option Addr) (cbp k : Nat) (qs : List Pt) (hk : qs.length = k) (hQ : Pl w (.slice bo k cbp) qs)
include hk hQ
theorem rsame_at (v : Bool) (h : Hid (samB pts qs = v)) : Calls Try.prog 19 #[.slice ao n cap, .slice bo k cbp] w fun e W' => e = .returned (.bool v) ∧ Below w.heap.size w W' := by
  subst hn hk; have := rsame_any ao bo cap cbp pts qs hlen w hP hQ; rw [h.out] at this; exact this
theorem crossings_at (hlen2 : qs.length ≤ maxLen) (v : Int) (h : Hid (crsV pts qs = v)) : Calls Try.prog 23 #[.slice ao n cap, .slice bo k cbp] w fun e W' => e = .returned (.int .i64 v) ∧ Below w.heap.size w W' := by
  subst hn hk; have := crossings_any ao bo cap cbp pts qs hlen hlen2 w hP hQ; rw [h.out] at this; exact this
end
/-- A list written out, in memory. -/
theorem lit_pl (w : World) (l : List Pt) (n : Nat) (cs : Array Value) (h : cs.toList = flat2 l) (hn : l.length = n) (hm : n ≤ maxLen) : Pl (w.alloc (.cells cs 33)) (.slice (some ⟨w.heap.size, 0, none⟩) n n) l := by
  subst hn
  refine own_pl (B := w.heap.size) (e := 33) ?_
  rw [← h]
  exact World.ownsRow_lit (base := w.heap.size) (e := 33) (size := 2) w cs l.length (Nat.le_refl _) hm (by rw [← Array.length_toList, h, flat2_length])
end Go.Proofs.Ytllhdalfhhjigaa
