/-
  A loop over an iterator that stores in blocks of its own between two rounds: the contract of such an iterator, and the loop's law. No function of the program is named here; no condition.
-/
import Derived.Test.YtllhdalfhhjigaaSeqIn
namespace Go.Proofs.Ytllhdalfhhjigaa
open Go.RowKit

/-- What a round keeps: whatever lay below m; whatever lay at or beyond B, but for the one block b. -/
def KpX (m B b : Nat) (X Y : World) : Prop := Below m X Y ∧ ∀ k, B ≤ k → k < X.heap.size → k ≠ b → Y.heap[k]? = X.heap[k]?
theorem KpX.refl (m B b : Nat) (X : World) : KpX m B b X X := ⟨Below.refl _ _, fun _ _ _ _ => rfl⟩
theorem KpX.t {m B b : Nat} {X Y Z : World} (h : KpX m B b X Y) (k : KpX m B b Y Z) : KpX m B b X Z :=
  ⟨h.1.trans k.1, fun i h1 h2 h3 => (k.2 i h1 (Nat.lt_of_lt_of_le h2 h.1.size) h3).trans (h.2 i h1 h2 h3)⟩
theorem KpX.mono {m B B' b : Nat} {X Y : World} (h : KpX m B b X Y) (hB : B ≤ B') : KpX m B' b X Y := ⟨h.1, fun i h1 => h.2 i (by omega)⟩
theorem KpX.of {m B b : Nat} {X Y : World} (hm : m ≤ X.heap.size) (h : Below X.heap.size X Y) : KpX m B b X Y := ⟨h.mono hm, fun i _ h2 _ => h.block i h2⟩
theorem KpX.put {m B b l : Nat} {X : World} (o' : Obj) (hm : m ≤ l) (hl : l < X.heap.size) (hB : l < B) : KpX m B b X (X.putObj l o') :=
  ⟨(Below.refl m X).grown (grownBy_putObj' X l o') (by omega) (fun k e => by cases e; omega), fun i h1 _ _ => World.putObj_heap_other (by omega)⟩
theorem KpX.set {m B b c o : Nat} {X : World} {v : Value} (hm : m ≤ c) (h : c < B ∨ c = b) : KpX m B b X (X.setCell ⟨c, o, none⟩ v) :=
  ⟨(Below.refl m X).setCell (p := ⟨c, o, none⟩) hm v, fun i h1 _ h3 => Below.heap_setCell _ _ _ _ (by simp; omega)⟩
theorem below_grown {X Y : World} (h : Below X.heap.size X Y) : X.grownBy Y none := ⟨h.os, h.tape, h.output, h.size, fun k hk _ => h.block k hk⟩

theorem grown_set (W : World) (b o : Nat) (v : Value) : W.grownBy (W.setCell ⟨b, o, none⟩ v) (some b) :=
  ⟨rfl, rfl, rfl, (KeepsWalks.setCell W _ v).size, fun k _ hk => Below.heap_setCell _ _ _ k (fun e => hk (by rw [e]))⟩
theorem Box2.set {W : World} {B : Nat} {t : TypeId} {x y : Int} (x' y' : Int) (h : Box2 W B t x y) : Box2 ((W.setCell ⟨B, 0, none⟩ (.int .i64 x')).setCell ⟨B, 1, none⟩ (.int .i64 y')) B t x' y' := by
  have h1 : (W.setCell ⟨B, 0, none⟩ (.int .i64 x')).heap[B]? = some (.cells #[.int .i64 x', .int .i64 y] t (0, 0)) := by
    obtain ⟨hlt, hk⟩ := Array.getElem?_eq_some_iff.1 h
    show (W.heap.modify B _)[B]? = _
    rw [Array.getElem?_eq_getElem (by rw [Array.size_modify]; exact hlt), Array.getElem_modify_self, hk]
    rfl
  obtain ⟨hlt, hk⟩ := Array.getElem?_eq_some_iff.1 h1
  show ((W.setCell ⟨B, 0, none⟩ (.int .i64 x')).heap.modify B _)[B]? = _
  rw [Array.getElem?_eq_getElem (by rw [Array.size_modify]; exact hlt), Array.getElem_modify_self, hk]
  rfl
theorem roundWide {P : Program} {k k' l l2 : Nat} {f : FuncId} {tmps : Array Value} {assign body : Code} {w : World} {R : Ending → World → Prop} (h : RoundIn Fence.wide k P l f tmps assign body w R) : RoundIn (Fence.wide.inRound l2) k' P l f tmps assign body w R :=
  ⟨h.1, fun c cs _ => h.2 c cs (room_wide _)⟩
/-- **The contract of an iterator that hands over xs, whatever the rounds, so they go on and keep what is the iterator's.** b: the one block, of those laid since the call, that a round may turn. -/
def SeqX {α : Type} (P : Program) (g : Nat) (lb : Array Value) (encs : α → Array Value) (te : TypeId) (m N : Nat) (xs : List α) (w : World) : Prop :=
  ∀ (n l : Nat) (J : List α → Nat → World → Prop) (b0 : Nat) (W : World), Below w.heap.size w W → b0 < W.heap.size →
    (∀ pre b X Y row, J pre b X → X.grownBy Y row → (∀ r, row = some r → W.heap.size ≤ r ∧ r ≠ b) → J pre b Y) →
    (∀ pre b X, J pre b X → ∃ cs t fr, X.heap[b]? = some (.cells cs t fr) ∧ t ≠ te) →
    (∀ k pre b x X, J pre b X → pre.length < N → YieldAt Fence.wide k P l (encs x) X fun e Y =>
      e = .returned (.bool true) ∧ (∃ b', J (pre ++ [x]) b' Y ∧ (b' = b ∨ X.heap.size ≤ b')) ∧ KpX m W.heap.size b X Y) →
    J [] b0 W →
    CallsIn Fence.wide n P g (#[.func (.yield l) #[] #[]] ++ lb) W fun e W' => (∃ v, e = .returned v) ∧ ∃ b, J xs b W'

/-- **The loop over such an iterator, where every round goes on.** -/
theorem range_x {P : Program} {n : Nat} {α : Type} {g : Operand} {ps : Array Tmp} {assign body : Code} {Q : Exit → Act → World → Prop} {a : Act} {w : World} {gf : Nat} {lb : Array Value} (hg : a.eval g = .func (.func gf) #[] lb)
    (eg : ∀ args w, (callFunc gf args).run P w = .ok (.enter gf args) w) {encs : α → Array Value} {te : TypeId} {m N : Nat} {xs : List α} (hseq : SeqX P gf lb encs te m N xs w) (hm : m ≤ w.heap.size) (hps : ∀ x, (encs x).size = ps.size)
    (I : List α → Nat → World → Prop) (hI : ∀ pre b X Y row, I pre b X → X.grownBy Y row → (∀ r, row = some r → w.heap.size ≤ r ∧ r ≠ b) → I pre b Y)
    (hIb : ∀ pre b X, I pre b X → ∃ cs t fr, X.heap[b]? = some (.cells cs t fr) ∧ t ≠ te) (b0 : Nat) (hb0 : b0 < w.heap.size) (h0 : I [] b0 w) (Ax : α → Act → Nat → World → Prop)
    (hAx : ∀ x a' b X l o o', Ax x a' b X → X.heap[l]? = some (.loop o) → Ax x a' b (X.putObj l o'))
    (hassign : ∀ (k l : Nat) (pre : List α) (b : Nat) (x : α) (W : World) (K : Act → World → Prop), I pre b W → w.heap.size + 2 ≤ W.heap.size → (∀ a' W', KpX m w.heap.size b W W' → I pre b W' → Ax x a' b W' → K a' W') →
      assign.wpIn (Fence.wide.inRound l) k P (Exit.then K (fun _ _ _ => False)) { tmps := (ps.zip (encs x)).foldl (fun t (p, v) => t.setIfInBounds p v) a.tmps, defers := [] } W)
    (hbody : ∀ (k l : Nat) (pre : List α) (b : Nat) (x : α) (a' : Act) (W : World), I pre b W → w.heap.size + 2 ≤ W.heap.size → Ax x a' b W → pre.length < N →
      body.wpIn (Fence.wide.inRound l) k P (fun e _ W' => match e with | .normal => KpX m w.heap.size b W W' ∧ ∃ b', I (pre ++ [x]) b' W' ∧ (b' = b ∨ W.heap.size ≤ b') | _ => False) a' W)
    (hdone : ∀ (D b : Nat) (W : World), w.heap.size ≤ D → I xs b W → D ≠ b → W.heap[D]? = some (.deferred (some [])) → Q .normal { a with defers := { target := .collected D, args := #[] } :: a.defers } W) :
    (Code.rangeFunc g ps assign body).wpIn Fence.wide n P Q a w := by
  refine wpIn_rangeFunc fun fn hfn => ?_
  obtain ⟨rec, hrec⟩ : ∃ rec : LoopState → Loop, rec = fun st => { state := st, pending := none, fn, tmps := a.tmps, params := ps, assign, body, defers := w.heap.size } := ⟨_, rfl⟩
  obtain ⟨W1, hW1⟩ : ∃ W1, (w.alloc (.deferred (some []))).alloc (.loop (rec .ready)) = W1 := ⟨_, rfl⟩
  have hb1 : Below w.heap.size w W1 := by rw [← hW1]; exact al2 ..
  have hz1 : W1.heap.size = w.heap.size + 2 := by rw [← hW1]; simp
  have hL1 : W1.heap[w.heap.size + 1]? = some (.loop (rec .ready)) := by
    rw [← hW1]; have := World.alloc_heap_new (w.alloc (.deferred (some []))) (.loop (rec .ready)); rwa [World.size_alloc] at this
  have hK1 : W1.heap[w.heap.size]? = some (.deferred (some [])) := by
    rw [← hW1]; exact (Below.heap_alloc _ _ _ (by simp)).trans (World.alloc_heap_new w _)
  have hI1 : I [] b0 W1 := hI _ _ _ _ none h0 (below_grown hb1) (fun r e => by cases e)
  refine ⟨w.heap.size + 1, [{ target := .collected w.heap.size, args := #[] }], W1, { target := .fn (.func gf) lb, args := #[.func (.yield (w.heap.size + 1)) #[] #[]] }, W1, gf,
    #[.func (.yield (w.heap.size + 1)) #[] #[]] ++ lb, W1, ?_, ?_, fun _ _ => trivial, ?_, fun h => (by cases h), ?_⟩
  · rw [← hW1, hrec]; exact run_enterLoop_outer _ _ _ _ _
  · simp only [resolve, hg]; simp [go_sem]
  · simp [invoke, go_sem, eg]
  -- what holds between two rounds: the caller's own, and the two blocks of book-keeping
  obtain ⟨J, hJ⟩ : ∃ J : List α → Nat → World → Prop, J = fun pre b X => I pre b X ∧ X.heap[w.heap.size + 1]? = some (.loop (rec .ready)) ∧ X.heap[w.heap.size]? = some (.deferred (some [])) := ⟨_, rfl⟩
  have hne : ∀ pre b X, J pre b X → b ≠ w.heap.size ∧ b ≠ w.heap.size + 1 := by
    intro pre b X h
    rw [hJ] at h
    obtain ⟨cs, t, fr, hc, _⟩ := hIb pre b X h.1
    exact ⟨fun e => (by rw [e, h.2.2] at hc; cases hc), fun e => (by rw [e, h.2.1] at hc; cases hc)⟩
  refine (hseq (n - 1) (w.heap.size + 1) J b0 W1 hb1 (by omega) ?_ (fun pre b X h => hIb pre b X (by rw [hJ] at h; exact h.1)) ?_ (by rw [hJ]; exact ⟨hI1, hL1, hK1⟩)).mono ?_
  · intro pre b X Y row h hgr hr
    rw [hJ] at h ⊢
    have hlt : w.heap.size + 1 < X.heap.size := (Array.getElem?_eq_some_iff.1 h.2.1).1
    exact ⟨hI pre b X Y row h.1 hgr (fun r e => ⟨by have := (hr r e).1; omega, (hr r e).2⟩),
      (hgr.block _ (by omega) (fun e => by have := (hr _ e.symm).1; omega)).trans h.2.1, (hgr.block _ (by omega) (fun e => by have := (hr _ e.symm).1; omega)).trans h.2.2⟩
  · -- a round
    intro k pre b x X h hlen
    obtain ⟨hn0, hn1⟩ := hne pre b X h
    rw [hJ] at h
    obtain ⟨hi, hl, hd⟩ := h
    have hlt : w.heap.size + 1 < X.heap.size := (Array.getElem?_eq_some_iff.1 hl).1
    have hy := run_yield (P := P) (args := encs x) hl (by rw [hrec]; exact hps x)
    rw [hrec] at hy
    refine ⟨fn, _, assign, body, hy, roundIn_of_wpIn hfn (hassign k _ pre b x X _ hi (by omega) fun a' X2 hk2 hi2 ha2 => ?_)⟩
    have hl2 := (hk2.2 _ (by omega) hlt (fun e => hn1 e.symm)).trans hl
    have hd2 := (hk2.2 _ (by omega) (by omega) (fun e => hn0 e.symm)).trans hd
    have hz2 := hk2.1.size
    obtain ⟨X3, hX3⟩ : ∃ X3, X3 = X2.putObj (w.heap.size + 1) (.loop { rec .ready with state := .busy }) := ⟨_, rfl⟩
    have hbr : (Instr.beginRound (w.heap.size + 1)).run P X2 = .ok () X3 := by rw [hX3]; exact run_beginRound hl2 (by rw [hrec])
    have hl3 : X3.heap[w.heap.size + 1]? = some (.loop { rec .ready with state := .busy }) := by rw [hX3]; exact World.putObj_heap_same (by omega)
    have hd3 : X3.heap[w.heap.size]? = some (.deferred (some [])) := by rw [hX3]; exact (World.putObj_heap_other (by omega)).trans hd2
    have hi3 : I pre b X3 := by rw [hX3]; exact hI _ _ _ _ _ hi2 (grownBy_putObj' _ _ _) (fun r e => by cases e; exact ⟨by omega, fun e => hn1 e.symm⟩)
    have hk3 : KpX m W1.heap.size b X2 X3 := by rw [hX3]; exact KpX.put _ (by omega) (by omega) (by omega)
    have ha3 : Ax x a' b X3 := by rw [hX3]; exact hAx _ _ _ _ _ _ _ ha2 hl2
    have hz3 := hk3.1.size
    clear hX3
    refine ⟨_, hbr, ?_⟩
    refine wpIn_mono (hbody k _ pre b x a' _ hi3 (by omega) ha3 hlen) ?_
    intro e a4 X4 hp
    cases e with
    | normal =>
      obtain ⟨hk4, b', hi4, hb'⟩ := hp
      have hl4 := (hk4.2 (w.heap.size + 1) (by omega) (by omega) (fun e => hn1 e.symm)).trans hl3
      have hd4 := (hk4.2 w.heap.size (by omega) (by omega) (fun e => hn0 e.symm)).trans hd3
      have hz4 := hk4.1.size
      have hb4 : b' ≠ w.heap.size + 1 := by omega
      obtain ⟨X5, hX5⟩ : ∃ X5, X5 = X4.putObj (w.heap.size + 1) (.loop (rec .ready)) := ⟨_, rfl⟩
      have he : (Instr.endRound (w.heap.size + 1) none).run P X4 = .ok (.bool true) X5 := by
        have := run_endRound (P := P) none hl4
        rw [hX5, hrec] at *
        exact this
      have hi5 : I (pre ++ [x]) b' X5 := by rw [hX5]; exact hI _ _ _ _ _ hi4 (grownBy_putObj' _ _ _) (fun r e => by cases e; exact ⟨by omega, fun e => hb4 e.symm⟩)
      have hl5 : X5.heap[w.heap.size + 1]? = some (.loop (rec .ready)) := by rw [hX5]; exact World.putObj_heap_same (by omega)
      have hd5 : X5.heap[w.heap.size]? = some (.deferred (some [])) := by rw [hX5]; exact (World.putObj_heap_other (by omega)).trans hd4
      have hk5 : KpX m W1.heap.size b X4 X5 := by rw [hX5]; exact KpX.put _ (by omega) (by omega) (by omega)
      refine ⟨_, _, he, rfl, ⟨b', ?_, by omega⟩, ((hk2.mono (by omega)).t hk3).t ((hk4.mono (by omega)).t hk5)⟩
      rw [hJ]
      exact ⟨hi5, hl5, hd5⟩
    | _ => exact hp.elim
  · rintro e W2 ⟨⟨v, rfl⟩, b, h⟩
    obtain ⟨hn0, hn1⟩ := hne _ b W2 h
    rw [hJ] at h
    obtain ⟨hi, hl, hd⟩ := h
    have hlt : w.heap.size + 1 < W2.heap.size := (Array.getElem?_eq_some_iff.1 hl).1
    exact ⟨none, _, by have := run_endLoop (P := P) hl (by rw [hrec]; simp); rw [hrec] at this; exact this,
      hdone _ b _ (Nat.le_refl _) (hI _ _ _ _ _ hi (grownBy_putObj' _ _ _) (fun r e => by cases e; exact ⟨by omega, fun e => hn1 e.symm⟩)) (fun e => hn0 e.symm) ((World.putObj_heap_other (by omega)).trans hd)⟩
end Go.Proofs.Ytllhdalfhhjigaa
