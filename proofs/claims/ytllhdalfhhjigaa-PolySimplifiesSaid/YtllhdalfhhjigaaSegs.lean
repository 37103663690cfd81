/-
  The iterator over the segments of a list of points, as the code makes it: its contract. Condition: the list is no longer than a list can be.
-/
import Derived.Test.YtllhdalfhhjigaaSeqIn
import Derived.Test.YtllhdalfhhjigaaPts
namespace Go.Proofs.Ytllhdalfhhjigaa
open Go.RowKit
attribute [local go_sem] Oper.semAt_some

abbrev Sg := Pt × Pt
/-- The first k segments. -/
def sgs (l : List Pt) (k : Nat) : List Sg := (List.range k).map fun i => (pa l i, pa l (i + 1))
theorem sgs_zero (l : List Pt) : sgs l 0 = [] := rfl
theorem sgs_succ (l : List Pt) (k : Nat) : sgs l (k + 1) = sgs l k ++ [(pa l k, pa l (k + 1))] := by simp [sgs, List.range_succ]
theorem sgs_length (l : List Pt) (k : Nat) : (sgs l k).length = k := by simp [sgs]
theorem sgs_prefix (l : List Pt) {k n : Nat} (h : k ≤ n) : sgs l k <+: sgs l n := by
  obtain ⟨d, rfl⟩ : ∃ d, n = k + d := ⟨n - k, by omega⟩
  induction d with
  | zero => exact List.prefix_refl _
  | succ d ih => rw [← Nat.add_assoc, sgs_succ]; exact (ih (by omega)).trans (List.prefix_append _ _)
/-- A segment as the program hands it over. -/
def segV (s : Sg) : Value := .agg #[.int .i64 s.1.1, .int .i64 s.1.2, .int .i64 s.2.1, .int .i64 s.2.2]

/-- What a list in memory says of the point at an index. -/
theorem Pl.get {W : World} {v : Value} {l : List Pt} (h : Pl W v l) (i : Nat) (hi : i < l.length) : ∃ A cap, v = .slice (some A) l.length cap ∧ l.length ≤ cap ∧
    W.cell? (A.add (i * 2)) = some (.int .i64 (pa l i).1) ∧ W.cell? ⟨(A.add (i * 2)).block, (A.add (i * 2)).off + 1, none⟩ = some (.int .i64 (pa l i).2) := by
  obtain ⟨ao, cap, rfl, hc, hA⟩ := h
  obtain ⟨A, rfl, hA2⟩ := hA (by omega)
  exact ⟨A, cap, rfl, hc, (hA2 i hi).1, (hA2 i hi).2⟩

set_option maxHeartbeats 1000000 in
theorem segments_any (ao : Option Addr) (len cap : Nat) (w : World) :
    Calls Try.prog 30 #[.slice ao len cap] w fun e w' => e = .returned (.func (.func 45) #[] #[.pointer (some ⟨w.heap.size, 0, none⟩)]) ∧ w' = w.alloc (.cells #[.slice ao len cap] 22) := by
  go_enter Try.func30, Try.ntmps30
  go_wp2
  go_ret
  exact ⟨rfl, rfl⟩

set_option maxRecDepth 100000 in
set_option maxHeartbeats 2000000 in
theorem seg1_in (n : Nat) (hn : 1 ≤ n) (l Bs : Nat) (ao : Option Addr) (cap : Nat) (pts : List Pt) (hlen : pts.length ≤ maxLen) (Kp : World → World → Prop) (J Jx : List Sg → World → Prop)
    (hKc : ∀ W W', Kp W W' → W.cell? ⟨Bs, 0, none⟩ = some (.slice ao pts.length cap) → W'.cell? ⟨Bs, 0, none⟩ = some (.slice ao pts.length cap))
    (hKp : ∀ W W', Kp W W' → Pl W (.slice ao pts.length cap) pts → Pl W' (.slice ao pts.length cap) pts)
    (hJd : ∀ pre W, J pre W → J pre W.drew)
    (hY : ∀ pre x W, J pre W → pre.length < pts.length - 1 → YieldAt Fence.wide (n - 1) Try.prog l #[segV x] W fun e W' =>
      (e = .returned (.bool true) ∧ J (pre ++ [x]) W' ∧ Kp W W') ∨ (e = .returned (.bool false) ∧ Jx (pre ++ [x]) W'))
    (W : World) (hBs : W.cell? ⟨Bs, 0, none⟩ = some (.slice ao pts.length cap)) (hP : Pl W (.slice ao pts.length cap) pts) (h0 : J [] W) :
    CallsIn Fence.wide n Try.prog 45 #[.func (.yield l) #[] #[], .pointer (some ⟨Bs, 0, none⟩)] W fun e W' => (∃ v, e = .returned v) ∧
      ((∃ ys, ys = sgs pts (pts.length - 1) ∧ J ys W') ∨ (∃ pre, (∃ k, k < pts.length - 1 ∧ pre = sgs pts (k + 1)) ∧ Jx pre W')) := by
  have hmx : Try.prog.follows .mixedOrders = true := by kernel_rfl
  unfold maxLen at hlen
  refine callsIn_of_wp Try.func45 rfl trivial ?_ rfl
  simp only [Try.ntmps45, List.size_toArray, List.length_cons, List.length_nil, Nat.reduceAdd, Nat.reduceSub, Array.replicate_succ, Array.replicate_zero, List.push_toArray, List.append_toArray, List.nil_append, List.cons_append]
  gi_wp2
  gi_loopw [3] (fun i wr => ∃ k : Nat, k ≤ pts.length - 1 ∧ i = .int .i64 (k + 1) ∧ J (sgs pts k) wr ∧ wr.cell? ⟨Bs, 0, none⟩ = some (.slice ao pts.length cap) ∧ Pl wr (.slice ao pts.length cap) pts)
    (fun i _ => pts.length - (intOf i).toNat)
  case atStart => exact ⟨0, Nat.zero_le _, rfl, h0, hBs, hP⟩
  case round =>
    obtain ⟨k, hk, rfl, hJs, hcb, hpl⟩ := hrel
    by_cases hlt : k + 1 < pts.length
    · obtain ⟨A, cap', e1, _, c0, c1⟩ := hpl.get k (by omega)
      cases e1
      obtain ⟨A', cap'', e2, _, c2, c3⟩ := hpl.get (k + 1) hlt
      cases e2
      have hJd' := hJd _ _ hJs
      have hgo : ∀ (Q : Exit → Act → World → Prop) (a : Act), True → True := fun _ _ _ => trivial
      gi_wp2
      refine wpIn_still_tail 11 hmx (by kernel_rfl) ?_
      simp only [List.take_succ_cons, List.take_zero, List.drop_succ_cons, List.drop_zero]
      have hcd : wr.drew.cell? ⟨Bs, 0, none⟩ = some (.slice (some A) pts.length cap) := hcb
      have hpd : Pl wr.drew (.slice (some A) pts.length cap) pts := hpl.keep (below_drew wr)
      replace c0 : wr.drew.cell? (A.add (k * 2)) = _ := c0
      replace c1 : wr.drew.cell? ⟨(A.add (k * 2)).block, (A.add (k * 2)).off + 1, none⟩ = _ := c1
      replace c2 : wr.drew.cell? (A.add ((k + 1) * 2)) = _ := c2
      replace c3 : wr.drew.cell? ⟨(A.add ((k + 1) * 2)).block, (A.add ((k + 1) * 2)).off + 1, none⟩ = _ := c3
      clear hcb hpl hJs
      generalize wr.drew = wd at *
      obtain ⟨fn, tmps, assign, body, hy, hR⟩ := hY _ (pa pts k, pa pts (k + 1)) wd hJd' (by rw [sgs_length]; omega)
      dsimp only [segV] at hy
      have hwk : IntKind.i64.wrap (k : Int) = k := IntWalk.i64_in _ (by omega)
      have hk1 : k < pts.length := by omega
      have hk2 : (0 : Int) ≤ (k : Int) + 1 := by omega
      iterate 11 still_step
      refine wpStill_nil ?_
      gi_wp2
      refine hR.mono ?_
      rintro e W3 (⟨rfl, hJ3, hk3⟩ | ⟨rfl, hJx3⟩)
      · have hc3 := hKc _ _ hk3 hcd
        have hp3 := hKp _ _ hk3 hpd
        gi_wp2
        go_roundw
        case rel => exact ⟨k + 1, by omega, by go_num, by rw [sgs_succ]; exact hJ3, hc3, hp3⟩
        case measure => simp [intOf]; omega
      · gi_wp2
        refine bodyPost_ret (results_none rfl _ _ _) rfl ?_
        exact ⟨⟨_, rfl⟩, .inr ⟨_, ⟨k, by omega, rfl⟩, by rw [sgs_succ]; exact hJx3⟩⟩
    · gi_wp2
      go_end0
      exact ⟨⟨_, rfl⟩, .inl ⟨_, by rw [show pts.length - 1 = k by omega], hJs⟩⟩

theorem Pl.block {W : World} {ao : Option Addr} {n cap : Nat} {l : List Pt} (h : Pl W (.slice ao n cap) l) : ∀ A, ao = some A → 0 < l.length → A.block < W.heap.size := by
  intro A e h0
  obtain ⟨A', cap', e', _, c0, _⟩ := h.get 0 h0
  cases e'
  cases e
  have := World.block_lt_of_cell? W _ c0
  rwa [show (A.add (0 * 2)).block = A.block by unfold Addr.add; split <;> rfl] at this
theorem Pl.below {m : Nat} {W W' : World} {ao : Option Addr} {n cap : Nat} {l : List Pt} (hb : Below m W W') (hm : ∀ A, ao = some A → 0 < l.length → A.block < m) (h : Pl W (.slice ao n cap) l) : Pl W' (.slice ao n cap) l := by
  obtain ⟨ao', cap', e, hc, hA⟩ := h
  cases e
  refine ⟨ao, cap, rfl, hc, fun h0 => ?_⟩
  obtain ⟨A, rfl, hA2⟩ := hA h0
  have hk := hm A rfl h0
  refine ⟨A, rfl, fun i hi => ?_⟩
  have eb : (A.add (i * 2)).block = A.block := by unfold Addr.add; split <;> rfl
  exact ⟨(hb.cell (by rw [eb]; exact hk)).trans (hA2 i hi).1, (hb.cell (p := ⟨(A.add (i * 2)).block, (A.add (i * 2)).off + 1, none⟩) (by rw [eb]; exact hk)).trans (hA2 i hi).2⟩

/-- What a round keeps for the iterator: whatever lay below m, and the iterator's box. -/
def KpB (m Bs : Nat) (W W' : World) : Prop := Below m W W' ∧ W'.heap[Bs]? = W.heap[Bs]?
theorem KpB.t {m Bs : Nat} {A B C : World} (h : KpB m Bs A B) (k : KpB m Bs B C) : KpB m Bs A C := ⟨h.1.trans k.1, k.2.trans h.2⟩
theorem KpB.b {m Bs : Nat} {w : World} (hm : m ≤ w.heap.size) (hB : Bs < w.heap.size) (W : World) (l : Nat) (o o' : Obj) (hl : w.heap.size ≤ l) (h : W.heap[l]? = some o) (_ : o.isCells = false) (_ : o.isWalk = false) : KpB m Bs W (W.putObj l o') :=
  ⟨(Below.refl m W).grown (grownBy_putObj' W l o') (by have := (Array.getElem?_eq_some_iff.1 h).1; omega) (fun k e => by cases e; omega), World.putObj_heap_other (by omega)⟩
theorem KpB.of {m Bs : Nat} {W W' : World} (hm : m ≤ W.heap.size) (hB : Bs < W.heap.size) (h : Below W.heap.size W W') : KpB m Bs W W' := ⟨h.mono hm, h.block Bs hB⟩
theorem KpB.set {m Bs b o : Nat} {W : World} {v : Value} (hm : m ≤ b) (hb : Bs ≠ b) : KpB m Bs W (W.setCell ⟨b, o, none⟩ v) := ⟨(Below.refl m W).setCell (p := ⟨b, o, none⟩) hm v, Below.heap_setCell _ _ _ _ hb⟩

/-- **The iterator over the segments stops where it should.** -/
theorem seg_stops (n : Nat) (hn : 1 ≤ n) (m Bs : Nat) (ao : Option Addr) (cap : Nat) (pts : List Pt) (hlen : pts.length ≤ maxLen) (w : World) (hB : Boxed w Bs 22 (.slice ao pts.length cap))
    (hb : ∀ A, ao = some A → 0 < pts.length → A.block < m) (hP : Pl w (.slice ao pts.length cap) pts) :
    SeqStopsK Fence.wide n Try.prog 45 #[.pointer (some ⟨Bs, 0, none⟩)] (fun s : Sg => #[segV s]) (KpB m Bs) (fun ys => ys = sgs pts (pts.length - 1)) (fun pre => ∃ k, k < pts.length - 1 ∧ pre = sgs pts (k + 1)) (pts.length - 1) w := fun l J Jx W hW hJ _ hY h0 => by
  have hB' : Boxed W Bs 22 (.slice ao pts.length cap) := boxed_keep hW hB
  refine seg1_in n hn l Bs ao cap pts hlen (KpB m Bs) J Jx (fun X Y hk hc => ?_) (fun X Y hk hp => hp.below hk.1 hb) (fun pre X hj => hJ pre X X.drew none hj (grown_drew _ _) (fun r e => by cases e)) hY W hB'.cell (hP.keep hW) h0
  exact (World.cell?_of_block (w := X) hk.2).trans hc

end Go.Proofs.Ytllhdalfhhjigaa
