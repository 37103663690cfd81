/-
  What Count, Depth and hasMoreThan of the landed tree return. Condition: a tree in memory, of at most 600 statements.
-/
import Derived.Test.YtmpjdlhigmofdaaMTe
import Derived.Test.YtmpjdlhigmofdaaTreLex
namespace Go.Proofs.Ytmpjdlhigmofdaa.tre
open Go.RowKit lex

/-- A box with one value that may be written. -/
def bx (W : World) (c : Nat) (v : Value) : Prop := W.cell? ⟨c, 0, none⟩ = some v ∧ W.frozen? ⟨c, 0, none⟩ = false
theorem bx_set {W : World} {c : Nat} {v u : Value} (h : bx W c v) : bx (W.setCell ⟨c, 0, none⟩ u) c u := by
  obtain ⟨h0, h1⟩ := h
  refine ⟨?_, ?_⟩ <;> go_simp
theorem bx_new (w : World) (v : Value) (t : TypeId) : bx (w.alloc (.cells #[v] t)) w.heap.size v := by
  refine ⟨?_, ?_⟩ <;> go_simp
theorem bx_keep {w1 w2 : World} {c : Nat} {v : Value} (h : bx w1 c v) (hb : Below w1.heap.size w1 w2) : bx w2 c v := ⟨cell_keep hb h.1, fr_keep hb h.1 h.2⟩
/-- A visitor that keeps one int. -/
def VInt (W0 : World) (c : Nat) (g : Nat) (more : Array Value) (f : Sa × Int → Int → Int × Bool) : Visit Int where
  f := f
  I := fun n W => Below W0.heap.size W0 W ∧ bx W c (.int .i64 n)
  In := memX W0
  g := g
  lb := #[.pointer (some ⟨c, 0, none⟩)] ++ more
  Bd := fun _ _ => True
theorem cnt_len (L : List Sa) (l : List St) (v : Value) (h : L.map Sa.s = l) (hS : SlX v L) : ((preXL L 0).length : Int) = cnt l := by rw [hS.len 0, h]

def depX (x : Sa × Int) (m : Int) : Int × Bool := (depF m (x.1.s, x.2), true)
def limX (_ : Sa × Int) (n : Int) : Int × Bool := (wrap64 (n + 1), decide (wrap64 (n + 1) ≤ 512))
set_option maxRecDepth 100000 in
set_option maxHeartbeats 4000000 in
theorem vlim_ok (W0 : World) (c b : Nat) (hc : W0.heap.size ≤ c) (hL : W0.cell? ⟨b, 0, none⟩ = some (.int .i64 512)) : (VInt W0 c 64 #[.pointer (some ⟨b, 0, none⟩)] limX).Ok where
  eg := enters_of Try.func64 (by kernel_rfl) rfl
  kids := fun _ h => memX_kids h
  skel := fun _ _ h _ hx => memX_skel h.1 hx
  mono := fun _ _ _ _ _ => trivial
  less := fun _ _ _ _ _ _ => trivial
  run := by
    intro x l n W hx h0 h1 _ hI
    obtain ⟨hB, hb⟩ := hI
    have HB := Lib.hid hB
    have HX := Lib.hid hb
    have l0 := cell_keep hB hL
    have hbc : b ≠ c := by
      have := World.block_lt_of_cell? W0 _ hL
      change b < W0.heap.size at this
      omega
    obtain ⟨q, hq⟩ : ∃ q, wrap64 (n + 1) = q := ⟨_, rfl⟩
    show Calls Try.prog 64 #[.pointer (some x.A), .int .i64 l, .pointer (some ⟨c, 0, none⟩), .pointer (some ⟨b, 0, none⟩)] W fun e w' => e = .returned (.bool (decide (wrap64 (n + 1) ≤ 512))) ∧ Below W0.heap.size W0 w' ∧ bx w' c (.int .i64 (wrap64 (n + 1)))
    rw [hq]
    obtain ⟨c0, c1⟩ := hb
    obtain ⟨z, hz⟩ : ∃ z, decide (q ≤ 512) = z := ⟨_, rfl⟩
    have HZ := Lib.hid hz
    rw [hz]
    clear hx hB hL
    cases z
    all_goals
      clear HZ
      go_enter Try.func64, Try.ntmps64
      go_wp2
      go_ret
      exact ⟨rfl, HB.out.setCell hc _, bx_set HX.out⟩
theorem wlim_of (W0 : World) (c b : Nat) (hc : W0.heap.size ≤ c) (hL : W0.cell? ⟨b, 0, none⟩ = some (.int .i64 512)) (L : List Sa) (l : List St) (v : Value) (w : World) (r : Bool) (hl : Hid (L.map Sa.s = l)) (hS : Hid (SlX v L)) (hM : Hid (memXL W0 L)) (hn : cnt l ≤ 600) (hB : Hid (Below W0.heap.size W0 w)) (hb : Hid (bx w c (.int .i64 0))) (hr : Hid (decide (512 < cnt l) = r)) :
    Calls Try.prog 36 #[v, .int .i64 0, .func (.func 64) #[] #[.pointer (some ⟨c, 0, none⟩), .pointer (some ⟨b, 0, none⟩)]] w fun e w' => e = .returned (.bool (!r)) ∧ Below W0.heap.size W0 w' := by
  have h2 := run_limit (preXL L 0) 0 (Int.le_refl _) (by omega)
  obtain ⟨q, hq⟩ : ∃ q, runL limX (preXL L 0) 0 = q := ⟨_, rfl⟩
  obtain ⟨R, b2⟩ := q
  have hb2 : b2 = !r := by
    have e : (runL limX (preXL L 0) 0).2 = b2 := by rw [hq]
    rw [← e]
    refine h2.trans ?_
    rw [cnt_len L l v hl.out hS.out, ← hr.out, Bool.eq_iff_iff]
    simp; omega
  subst hb2
  refine (walk_of _ (vlim_ok W0 c b hc hL) L v 0 0 w R (!r) hS (Lib.hid ((memXL_iff _ _).1 hM.out)) (Int.le_refl _) (by rw [hl.out]; omega) (by rw [hl.out]; exact hn) (Lib.hid trivial) (Lib.hid ⟨hB.out, hb.out⟩) (Lib.hid hq)).mono ?_
  rintro e w' ⟨he, hI⟩
  exact ⟨he, hI.1⟩
set_option maxRecDepth 100000 in
set_option maxHeartbeats 4000000 in
theorem more_of (v : Value) (T : Tr) (r : Bool) (w : World) (h : Hid (TrV w v T)) (hn : cnt T.body ≤ 600) (hr : Hid (decide (512 < cnt T.body) = r)) :
    Calls Try.prog 35 #[.int .i64 512, v] w fun e w' => e = .returned (.bool r) ∧ Below w.heap.size w w' := by
  obtain ⟨bv, rfl, _, hs⟩ := h.out
  clear h
  obtain ⟨X, hX⟩ : ∃ X, bb T.name = X := ⟨_, rfl⟩
  obtain ⟨d, hd⟩ : ∃ d, T.dir = d := ⟨_, rfl⟩
  rw [hX, hd]
  have hB1 := al1 w (.cells #[.int .i64 512] 3)
  have HZ1 : Hid ((w.alloc (.cells #[.int .i64 512] 3)).heap.size = w.heap.size + 1) := Lib.hid (by simp)
  have hl0 := (bx_new w (.int .i64 512) 3)
  have hB2 := al1 (w.alloc (.cells #[.int .i64 512] 3)) (.cells #[.string X, .bool d, bv] 24)
  have hB := below_keep hB2 hB1
  have HZ : Hid (((w.alloc (.cells #[.int .i64 512] 3)).alloc (.cells #[.string X, .bool d, bv] 24)).heap.size = w.heap.size + 1 + 1) := Lib.hid (by simp)
  have h3 := at3_new (w.alloc (.cells #[.int .i64 512] 3)) X d bv 24
  rw [HZ1.out] at h3
  have hl1 := (bx_keep hl0 hB2).1
  have hs0 := hs.keep hB
  obtain ⟨L, e1, e2, e3⟩ := sts_sa _ _ _ hs0
  have HB1 := al1 ((w.alloc (.cells #[.int .i64 512] 3)).alloc (.cells #[.string X, .bool d, bv] 24)) (.cells #[.int .i64 0] 3)
  have hbx := bx_new ((w.alloc (.cells #[.int .i64 512] 3)).alloc (.cells #[.string X, .bool d, bv] 24)) (.int .i64 0) 3
  rw [HZ.out] at hbx
  have C := Lib.hid (wlim_of _ (w.heap.size + 1 + 1) w.heap.size (by rw [HZ.out]; exact Nat.le_refl _) hl1 L T.body bv _ r (Lib.hid e1) (Lib.hid e2) (Lib.hid e3) hn (Lib.hid HB1) (Lib.hid hbx) hr)
  obtain ⟨c0, c1, c2⟩ := h3
  have hB0 := Lib.hid hB
  clear hX hd hs hs0 e1 e2 e3 hbx HB1 hB hB1 hB2 hl0 hl1 hr HZ1
  go_enter Try.func35, Try.ntmps35
  go_wp2_with fail
  refine C.out.mono ?_
  rintro e w2 ⟨rfl, hb2⟩
  go_wp2
  go_ret
  exact ⟨ret_bool (by simp), below_keep hb2 hB0.out⟩
end Go.Proofs.Ytmpjdlhigmofdaa.tre
