/-
  The rows that the reference's renamed makes: what they hold in every world that agrees on their blocks. No function of the program is named here; no condition.
-/
import Derived.Test.YtgnhpjbkbefgpaaTreCRn
import Derived.Test.YtgnhpjbkbefgpaaTreWRen
import Derived.Deep.AppendLies
namespace Go.Proofs.Ytgnhpjbkbefgpaa.tre
open Go.RowKit lex

/-- Two worlds agree on the blocks from lo to hi. -/
def agree (lo hi : Nat) (w W : World) : Prop := ∀ q, lo ≤ q → q < hi → W.heap[q]? = w.heap[q]?
def selfP (lo : Nat) (w : World) (v : Value) (l : List Pr) : Prop := ∀ W, agree lo w.heap.size w W → Prs W v l
def selfL (lo : Nat) (w : World) (v : Value) (l : List St) : Prop := ∀ W, agree lo w.heap.size w W → Sts W v l
/-- All old blocks but one stay. -/
def Kp (z : Nat) (w w' : World) : Prop := w.heap.size ≤ w'.heap.size ∧ ∀ q, q ≠ z → q < w.heap.size → w'.heap[q]? = w.heap[q]?
theorem Kp.refl (z : Nat) (w : World) : Kp z w w := ⟨Nat.le_refl _, fun _ _ _ => rfl⟩
theorem Kp.trans {z : Nat} {a b c : World} (h : Kp z a b) (k : Kp z b c) : Kp z a c := ⟨Nat.le_trans h.1 k.1, fun q h1 h2 => (k.2 q h1 (Nat.lt_of_lt_of_le h2 h.1)).trans (h.2 q h1 h2)⟩
theorem Kp.below {z : Nat} {a b : World} (h : Below a.heap.size a b) : Kp z a b := ⟨h.size, fun q _ h2 => h.block q h2⟩
theorem Kp.set (z : Nat) (a : World) (o : Nat) (u : Value) : Kp z a (a.setCell ⟨z, o, none⟩ u) := ⟨by simp [World.setCell], fun q h1 _ => Below.heap_setCell _ _ _ _ h1⟩
theorem Kp.trans' {z : Nat} {a b c : World} {row : Option Nat} (h : Kp z a b) (hg : b.grownBy c row) (hs : a.heap.size ≤ b.heap.size) (hr : ∀ q, row = some q → a.heap.size ≤ q) : Kp z a c :=
  ⟨Nat.le_trans hs hg.size, fun q h1 h2 => (hg.block q (Nat.lt_of_lt_of_le h2 hs) (fun e => by have := hr q e.symm; omega)).trans (h.2 q h1 h2)⟩
theorem agree_later {z lo lo' : Nat} {w w' W : World} (h : agree lo' w'.heap.size w' W) (hb : Kp z w w') (hz : z < lo) (hl : lo' ≤ lo) : agree lo w.heap.size w W := fun q h1 h2 => by
  rw [h q (by omega) (Nat.lt_of_lt_of_le h2 hb.1)]; exact hb.2 q (by omega) h2
theorem selfP.later {z lo lo' : Nat} {w w' : World} {v : Value} {l : List Pr} (h : selfP lo w v l) (hb : Kp z w w') (hz : z < lo) (hl : lo' ≤ lo) : selfP lo' w' v l := fun W hW => h W (agree_later hW hb hz hl)
theorem selfL.later {z lo lo' : Nat} {w w' : World} {v : Value} {l : List St} (h : selfL lo w v l) (hb : Kp z w w') (hz : z < lo) (hl : lo' ≤ lo) : selfL lo' w' v l := fun W hW => h W (agree_later hW hb hz hl)
theorem own_form {w : World} {B s n : Nat} {t : TypeId} {v : Value} {xs : List Value} (h : w.ownsRow B t s v n xs) : ∃ ao cap, v = .slice ao n cap ∧ n ≤ cap ∧ cap ≤ maxLen := by
  rcases h.2 with ⟨rfl, rfl⟩ | ⟨g, cap, cur, rfl, _, _, h1, h2, _⟩
  · exact ⟨_, 0, rfl, Nat.le_refl _, by decide⟩
  · exact ⟨_, cap, rfl, h1, h2⟩
theorem own_selfP {w : World} {B : Nat} {t : TypeId} {v : Value} {l : List Pr} (h : w.ownsRow B t 2 v l.length (l.flatMap prC)) (hl : ∀ r ∈ l, r.1.length ≤ maxLen ∧ r.2.length ≤ maxLen) : selfP B w v l := by
  intro W hW
  by_cases h0 : l.length = 0
  · obtain ⟨ao, cap, rfl, h1, h2⟩ := own_form h
    exact ⟨ao, cap, rfl, h1, h2, fun hn => by omega⟩
  · obtain ⟨g, cap, arr, rfl, hB, hk, h1, h2, h3⟩ := own_blk h (by omega)
    have hkW : blk W g t arr := by unfold blk at hk ⊢; rw [hW g hB (blk_lt hk)]; exact hk
    refine ⟨_, cap, rfl, h1, h2, fun _ => ⟨_, rfl, fun i hi => ?_⟩⟩
    have e0 := flat_get prC 2 (fun _ => rfl) l i 0 hi (by decide)
    have e1 := flat_get prC 2 (fun _ => rfl) l i 1 hi (by decide)
    obtain ⟨p2, p3⟩ := hl l[i] (List.getElem_mem hi)
    refine ⟨?_, ?_, p2, p3⟩
    · rw [add_at, Nat.zero_add, blk_cell hkW, ← Nat.add_zero (i * 2), h3 _ (by omega)]; exact e0
    · rw [add_at]
      show W.cell? ⟨g, 0 + i * 2 + 1, none⟩ = _
      rw [Nat.zero_add, blk_cell hkW, h3 _ (by omega)]; exact e1
/-- An element of the row that is being made: what hangs on it lies in an interval that the row does not lie in. -/
def elS (lo0 : Nat) (w : World) (ob : Option Nat) (x : Sv) : Prop := ∃ lo hi, lo0 ≤ lo ∧ hi ≤ w.heap.size ∧ (∀ q, ob = some q → ¬ (lo ≤ q ∧ q < hi)) ∧ ∀ W, agree lo hi w W → svOk W x
theorem elS.later {lo0 : Nat} {w w' : World} {ob : Option Nat} {x : Sv} (h : elS lo0 w ob x) (hb : Below w.heap.size w w') : elS lo0 w' ob x := by
  obtain ⟨lo, hi, h1, h2, h3, h4⟩ := h
  refine ⟨lo, hi, h1, Nat.le_trans h2 hb.size, h3, fun W hW => h4 W (fun q q1 q2 => ?_)⟩
  rw [hW q q1 q2]; exact hb.block q (by omega)
theorem elS.app {lo0 : Nat} {w w' : World} {ob : Option Nat} {g : Nat} {x : Sv} (h : elS lo0 w ob x) (hg : w.grownBy w' ob) (hat : ob = some g ∨ w.heap.size ≤ g) (hsz : w.heap.size ≤ w'.heap.size) : elS lo0 w' (some g) x := by
  obtain ⟨lo, hi, h1, h2, h3, h4⟩ := h
  refine ⟨lo, hi, h1, Nat.le_trans h2 hsz, fun q hq e => ?_, fun W hW => h4 W (fun q q1 q2 => ?_)⟩
  · have hq := Option.some.inj hq
    rcases hat with hat | hat
    · exact h3 g hat (by omega)
    · omega
  · rw [hW q q1 q2]
    exact hg.block q (by omega) (fun e => h3 q e.symm ⟨q1, q2⟩)
theorem svC_len (x : Sv) : (svC x).length = 5 := rfl
/-- The row that was made, as a list of statements. -/
theorem row_selfL {w : World} {B lo0 : Nat} {v : Value} {D : List Sv} {ob : Option Nat} (h : w.ownsRow B 43 5 v D.length (D.flatMap svC)) (hB : lo0 ≤ B) (hD : ∀ x ∈ D, elS lo0 w ob x) : selfL lo0 w v (D.map Sv.s) := by
  intro W hW
  by_cases h0 : D.length = 0
  · obtain ⟨ao, cap, rfl, h1, h2⟩ := own_form h
    exact ⟨ao, cap, by rw [List.length_map], by rw [List.length_map]; exact h1, h2, fun hn => by rw [List.length_map] at hn; omega⟩
  · obtain ⟨g, cap, arr, rfl, hBg, hk, h1, h2, h3⟩ := own_blk h (by omega)
    have hkW : blk W g 43 arr := by unfold blk at hk ⊢; rw [hW g (by omega) (blk_lt hk)]; exact hk
    refine ⟨_, cap, by rw [List.length_map], by rw [List.length_map]; exact h1, h2, fun _ => ⟨_, rfl, stsAt_of fun j hj => ?_⟩⟩
    have hj' : j < D.length := by simpa using hj
    obtain ⟨lo, hi, q1, q2, _, q4⟩ := hD D[j] (List.getElem_mem hj')
    obtain ⟨hn, hr, ha, hb⟩ := q4 W (fun q e1 e2 => hW q (by omega) (by omega))
    have hc : ∀ i, i < 5 → arr[j * 5 + i]? = (svC D[j])[i]? := fun i hi' => by rw [h3 _ (by omega)]; exact flat_get svC 5 svC_len D j i hj' hi'
    have hs : (D.map Sv.s)[j] = D[j].s := by rw [List.getElem_map]
    rw [hs, Nat.zero_add, add_at, Nat.zero_add]
    refine (stAt_eq _ _ _).2 ⟨?_, ?_, hn, ⟨_, ?_, hr⟩, ⟨_, ?_, ha⟩, _, ?_, hb⟩
    · rw [blk_cell hkW, ← Nat.add_zero (j * 5), hc 0 (by omega)]; rfl
    · show W.cell? ⟨g, j * 5 + 1, none⟩ = _; rw [blk_cell hkW, hc 1 (by omega)]; rfl
    · show W.cell? ⟨g, j * 5 + 2, none⟩ = _; rw [blk_cell hkW, hc 2 (by omega)]; rfl
    · show W.cell? ⟨g, j * 5 + 3, none⟩ = _; rw [blk_cell hkW, hc 3 (by omega)]; rfl
    · show W.cell? ⟨g, j * 5 + 4, none⟩ = _; rw [blk_cell hkW, hc 4 (by omega)]; rfl
theorem blk_grown {W w : World} {g : Nat} {t : TypeId} {arr : Array Value} {row : Option Nat} (h : blk W g t arr) (hg : W.grownBy w row) (hne : some g ≠ row) : blk w g t arr := by
  have := hg.block g (blk_lt h) hne
  unfold blk at h ⊢; rw [this]; exact h
/-- One element more in the row that is being made. -/
theorem rr_next {a b : List UInt8} {l : List St} {k g9 c9 : Nat} {w wr w8 w9 : World} {D : List Sv} {u : Value} {x : Sv} (hk : k < l.length) (hDm : D.map Sv.s = renL a b (l.take k)) (hD : ∀ y ∈ D, elS w.heap.size wr u.ownBlock y) (hBr : Below w.heap.size w wr) (hB8 : Below wr.heap.size wr w8)
    (ho : wr.ownsRow w.heap.size 43 5 u D.length (D.flatMap svC)) (ho9 : w9.ownsRow w.heap.size 43 5 (.slice (some ⟨g9, 0, none⟩) (D.length + 1) c9) (D.length + 1) (D.flatMap svC ++ svC x)) (hg : w8.grownBy w9 u.ownBlock) (hat : u.ownBlock = some g9 ∨ w8.heap.size ≤ g9)
    (hx : x.s = renS a b l[k]) (hself : ∀ W, agree wr.heap.size w8.heap.size w8 W → svOk W x) :
    w9.ownsRow w.heap.size 43 5 (.slice (some ⟨g9, 0, none⟩) (D.length + 1) c9) (D ++ [x]).length ((D ++ [x]).flatMap svC) ∧ (D ++ [x]).map Sv.s = renL a b (l.take (k + 1)) ∧ (∀ y ∈ D ++ [x], elS w.heap.size w9 (Value.slice (some ⟨g9, 0, none⟩) (D.length + 1) c9).ownBlock y) ∧ Below w.heap.size w w9 := by
  refine ⟨?_, ?_, ?_, ?_⟩
  · rw [List.length_append, List.flatMap_append, List.flatMap_cons, List.flatMap_nil, List.append_nil]; exact ho9
  · rw [List.map_append, hDm, renL_map, renL_map, List.take_add_one, List.getElem?_eq_getElem hk, List.map_append]
    show _ ++ [x.s] = _ ++ [renS a b l[k]]
    rw [hx]
  · intro y hy
    refine elS.app (ob := u.ownBlock) (w := w8) ?_ hg hat hg.size
    rcases List.mem_append.1 hy with hy | hy
    · exact (hD y hy).later hB8
    · obtain rfl : y = x := by simpa using hy
      exact ⟨wr.heap.size, w8.heap.size, hBr.size, Nat.le_refl _, fun q hq e => by have := (World.ownsRow.lt ho q hq).2; omega, hself⟩
  · exact (hBr.trans (hB8.mono hBr.size)).grown hg (Nat.le_trans hBr.size hB8.size) (fun q hq => (World.ownsRow.lt ho q hq).1)
/-- One ref more. -/
theorem app_ref {w : World} {ops : Array Oper} {rest : List Oper} {o : Oper} {a : Act} {Q : Exit → Act → World → Prop} (hg : o.guard = none) (p y : Operand) (ho : o.op = .call { callee := .builtin .append, args := #[p, y], argTypes := #[40, 40] })
    (B : Nat) (v : Value) (l : List Pr) (x : Pr) (X Y : ByteArray) (hX : Hid (bb x.1 = X)) (hY : Hid (bb x.2 = Y)) (H : Nat) (hH : w.heap.size = H) (hs : a.eval p = v) (hx : a.eval y = .slice (some ⟨H, 0, none⟩) 1 1) (h : Hid (w.ownsRow B 39 2 v l.length (l.flatMap prC))) (hl : l.length ≤ 1000000) (hB : B ≤ w.heap.size)
    (hK : ∀ v' w', w'.ownsRow B 39 2 v' (l ++ [x]).length ((l ++ [x]).flatMap prC) → w.grownBy w' v.ownBlock → wpList Try.prog ops Q rest (a.put o.dst v') w') : wpList Try.prog ops Q (o :: rest) a (w.alloc (.cells #[.string X, .string Y] 39)) := by
  rw [← hX.out, ← hY.out]
  subst hH
  obtain ⟨i0, hi, hz0, hz1, hz2⟩ := info_of_clr
  refine wpList_append_own _ hg p y 40 ho B 39 i0 _ 2 32 Try.underlying40 hi hz0 hz1 hz2 rfl (by decide) v l.length _ hs (World.ownsRow.alloc h.out _) ⟨w.heap.size, 0, none⟩ 1 1 [.string (bb x.1), .string (bb x.2)] hx rfl ?_ (by simp [Value.oneCell']) (by unfold maxLen; omega) (by omega) (by simp; omega) ?_
  · intro j u hj
    rw [add_at, Nat.zero_add, blk_cell (blk_new w #[.string (bb x.1), .string (bb x.2)] 39), ← hj]
    simp
  · intro v' w' hown hgrow _
    refine hK v' w' ?_ ?_
    · rw [List.length_append, List.flatMap_append]; exact hown
    · refine ⟨hgrow.os, hgrow.tape, hgrow.output, Nat.le_trans (by simp) hgrow.size, fun k hk hne => ?_⟩
      rw [hgrow.block k (by simp; omega) hne, heap_alloc_old w _ hk]
theorem run_append_nil {w : World} (base : Nat) (t ty e : TypeId) (i : TypeInfo) (size : Nat) (ht : Try.prog.underlying t = some (.slice e)) (hi : Try.prog.info? e = some i)
    (v : Value) (n : Nat) (xs : List Value) (hown : w.ownsRow base e size v n xs) (c : Nat) : (Builtin.append_ #[t, t] ty #[v, .slice none 0 c]).run Try.prog w = .ok v w := by
  rcases hown.2 with ⟨rfl, rfl⟩ | ⟨g, cap, cur, rfl, _, _, hnc, _⟩
  · simp [Builtin.append_, run_underlying ht, sizeOf, typeInfo, hi, Builtin.lenOf, Builtin.firstCells]
  · simp [Builtin.append_, run_underlying ht, sizeOf, typeInfo, hi, Builtin.lenOf, Builtin.firstCells, hnc, storeCells]
/-- All attributes, behind an empty row that was just made. -/
theorem app_atts {w : World} {ops : Array Oper} {rest : List Oper} {o : Oper} {a : Act} {Q : Exit → Act → World → Prop} (hg : o.guard = none) (p y : Operand) (ho : o.op = .call { callee := .builtin .append, args := #[p, y], argTypes := #[41, 41] })
    (B : Nat) (v : Value) (l : List Pr) (av : Value) (hs : a.eval p = v) (hx : a.eval y = av) (h : Hid (w.ownsRow B 70 2 v 0 [])) (hp : Hid (Prs w av l)) (hl : l.length ≤ 1000000) (hB : B ≤ w.heap.size)
    (hK : ∀ v' w', w'.ownsRow B 70 2 v' l.length (l.flatMap prC) → w.grownBy w' v.ownBlock → wpList Try.prog ops Q rest (a.put o.dst v') w') : wpList Try.prog ops Q (o :: rest) a w := by
  obtain ⟨i0, hi, hz0, hz1, hz2⟩ := info_of_cla
  obtain ⟨ao, cap, rfl, hc, hm, hA⟩ := id hp.out
  cases ao with
  | none =>
    have h0 : l.length = 0 := by
      rcases Nat.eq_zero_or_pos l.length with q | q
      · exact q
      · obtain ⟨_, e, _⟩ := hA q; cases e
    obtain rfl : l = [] := List.length_eq_zero_iff.1 h0
    refine wpList_plain hg fun K hK' => ?_
    have hrun := run_append_nil B 41 o.type 70 i0 2 Try.underlying41 hi v 0 [] h.out cap
    have hxx : a.eval y = .slice none 0 cap := hx
    unfold Oper.wp
    simp [execOp, ho, resolve, invoke, builtin, hs, hxx, hrun, Result.andThen]
    exact hK' _ _ (hK v w h.out ⟨rfl, rfl, rfl, Nat.le_refl _, fun _ _ _ => rfl⟩)
  | some A =>
    refine wpList_append_own _ hg p y 41 ho B 70 i0 _ 2 32 Try.underlying41 hi hz0 hz1 hz2 rfl (by decide) v 0 [] hs h.out A l.length cap (l.flatMap prC) hx (flat_len prC 2 (fun _ => rfl) l) ?_ ?_ (by unfold maxLen; omega) (by omega) hB ?_
    · refine flat_cell (f := prC) (k := 2) (fun _ => rfl) (by decide) (P := fun j u => w.cell? (A.add j) = some u) (fun i hi' j hj u hu => ?_)
      obtain ⟨A', e, h2⟩ := hA (by omega)
      cases e
      obtain ⟨p0, p1, _⟩ := h2 i hi'
      have h00 := (h2 0 (by omega)).1
      rw [Nat.zero_mul, show A.add 0 = A by unfold Addr.add; rw [if_pos rfl]] at h00
      have hsp := spot_none h00
      obtain ⟨b, o', q⟩ := A
      simp only [Addr.mk.injEq, true_and] at hsp
      subst hsp
      rw [add_at] at p0 p1 ⊢
      match j, hu with
      | 0, hu => obtain rfl := Option.some.inj hu; exact p0
      | 1, hu => obtain rfl := Option.some.inj hu; rw [← Nat.add_assoc]; exact p1
      | (j + 2), hu => omega
    · intro u hu
      obtain ⟨r, _, hr⟩ := List.mem_flatMap.1 hu
      rcases List.mem_cons.1 hr with rfl | hr
      · rfl
      · rcases List.mem_cons.1 hr with rfl | hr
        · rfl
        · cases hr
    · intro v' w' hown hgrow _
      rw [Nat.zero_add, List.nil_append] at hown
      exact hK v' w' hown hgrow
end Go.Proofs.Ytgnhpjbkbefgpaa.tre
