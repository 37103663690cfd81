/-
  slices.AppendSeq over the bends' iterator: the bends behind the points of a row. Conditions: the row has one point, the list has at most 512.
-/
import Derived.Test.YtllhdalfhhjigaaBends
import Derived.Laws.OwnMore
namespace Go.Proofs.Ytllhdalfhhjigaa
open Go.RowKit
attribute [local go_sem] Oper.semAt_some

section
variable {P : Program} (w : World)
/-- An append, and where its row lies. -/
theorem run_append_blk (base : Nat) (t ty e : TypeId) (i : TypeInfo) (z : Value) (size bytes : Nat) (ht : P.underlying t = some (.slice e)) (hi : P.info? e = some i) (hz : i.zero = some z)
    (hsize : i.size = size) (hby : i.bytes = bytes) (hzs : z.cells.size = size) (hsz : 0 < size)
    (g n cap : Nat) (xs : List Value) (hown : w.ownsRow base e size (.slice (some ⟨g, 0, none⟩) n cap) n xs)
    (a : Addr) (m c : Nat) (news : List Value) (hl : news.length = m * size) (hnews : ∀ j u, news[j]? = some u → w.cell? (a.add j) = some u) (h1 : ∀ u ∈ news, u.oneCell' = true)
    (h63 : n + m ≤ maxLen) (hbytes : (n + m) * bytes ≤ 140737488355328) (hbase : base ≤ w.heap.size) :
    ∃ g' cap' w', (Builtin.append_ #[t, t] ty #[.slice (some ⟨g, 0, none⟩) n cap, .slice (some a) m c]).run P w = .ok (.slice (some ⟨g', 0, none⟩) (n + m) cap') w' ∧ (g' = g ∨ g' = w.heap.size) ∧
      w'.ownsRow base e size (.slice (some ⟨g', 0, none⟩) (n + m) cap') (n + m) (xs ++ news) ∧ w.grownBy w' (some g) := by
  by_cases hroom : n + m ≤ cap
  · obtain ⟨w', hr, r1, r2⟩ := run_append_fits (P := P) w base t ty e i size ht hi hsize g n cap xs hown a m c news hl hnews h1 hroom
    exact ⟨g, cap, w', hr, .inl rfl, r1, r2⟩
  · obtain ⟨v', w', hr, r1, r2, _⟩ := run_append_own (P := P) w base t ty e i z size bytes ht hi hz hsize hby hzs hsz _ n xs hown a m c news hl hnews h1 h63 hbytes hbase
    have hsmall : n + m ≤ 9223372036854775807 := by simp only [maxLen] at h63; omega
    subst hsize
    subst hby
    have hr' := run_append_grow (P := P) w t ty e i z ht hi hz ⟨g, 0, none⟩ n cap xs hown.1 (hown.cells (g := g) rfl) a m c news hl hnews (by omega) (by omega) (growslice_fits (by omega) hbytes)
    rw [hr] at hr'
    obtain ⟨rfl, rfl⟩ := (Result.ok.injEq _ _ _ _).mp hr'
    exact ⟨_, _, _, hr, .inr rfl, r1, r2⟩
end
theorem wpListIn_append_blk {F : Fence} {n : Nat} {P : Program} (w : World) {ops : Array Oper} {rest : List Oper} {o : Oper} {a : Act} {Q : Exit → Act → World → Prop}
    (hg : o.guard = none) (s x : Operand) (t : TypeId) (hop : o.op = Op.call { callee := Callee.builtin Builtin.append, args := #[s, x], argTypes := #[t, t] })
    (base : Nat) (e : TypeId) (i : TypeInfo) (z : Value) (size bytes : Nat) (h1 : P.underlying t = some (.slice e)) (h2 : P.info? e = some i) (h3 : i.zero = some z) (h4 : i.size = size) (h5 : i.bytes = bytes) (h6 : z.cells.size = size) (h7 : 0 < size)
    (g k cap : Nat) (xs : List Value) (hs : a.eval s = .slice (some ⟨g, 0, none⟩) k cap) (hown : w.ownsRow base e size (.slice (some ⟨g, 0, none⟩) k cap) k xs) (ad : Addr) (m c : Nat) (news : List Value) (hx : a.eval x = .slice (some ad) m c) (hn : news.length = m * size)
    (hc : ∀ j u, news[j]? = some u → w.cell? (ad.add j) = some u) (h1c : ∀ u ∈ news, u.oneCell' = true) (b1 : k + m ≤ maxLen) (b2 : (k + m) * bytes ≤ 140737488355328) (b3 : base ≤ w.heap.size)
    (hK : ∀ g' cap' w', (g' = g ∨ g' = w.heap.size) → w'.ownsRow base e size (.slice (some ⟨g', 0, none⟩) (k + m) cap') (k + m) (xs ++ news) → w.grownBy w' (some g) → wpListIn F n P ops Q rest (a.put o.dst (.slice (some ⟨g', 0, none⟩) (k + m) cap')) w') :
    wpListIn F n P ops Q (o :: rest) a w := by
  refine wpListIn_plain hg fun K hK' => ?_
  obtain ⟨g', cap', w', hrun, r1, r2, r3⟩ := run_append_blk (P := P) w base t o.type e i z size bytes h1 h2 h3 h4 h5 h6 h7 g k cap xs hown ad m c news hn hc h1c b1 b2 b3
  unfold Oper.wpIn
  refine ⟨?_, ?_⟩
  · simp [Oper.about, hop, resolve, Target.leads, Sem.run_pure]
  · rw [Oper.semAt_plain F _ _ (by rw [hop]; intro c hc'; cases hc')]
    simp [execOp, hop, resolve, invoke, builtin, hs, hx, hrun, Result.andThen]
    exact hK' _ _ (hK g' cap' w' r1 r2 r3)

set_option maxRecDepth 100000 in
set_option maxHeartbeats 4000000 in
/-- The row of p0 and what the iterator hands over; base: all of it lies there or beyond. -/
theorem appendSeq_any (base g cap Bp : Nat) (p0 : Pt) (L : List Pt) (N : Nat) (hN : N ≤ 512) (w : World) (hb : base ≤ w.heap.size) (hrow : w.ownsRow base 33 2 (.slice (some ⟨g, 0, none⟩) 1 cap) 1 (flat2 [p0])) (hg : g < w.heap.size)
    (hseq : SeqX Try.prog 48 #[.pointer (some ⟨Bp, 0, none⟩)] (fun p : Pt => #[ptV p]) 36 base N L w) :
    Calls Try.prog 39 #[.slice (some ⟨g, 0, none⟩) 1 cap, .func (.func 48) #[] #[.pointer (some ⟨Bp, 0, none⟩)]] w fun e W' =>
      ∃ g' cap', e = .returned (.slice (some ⟨g', 0, none⟩) (L.length + 1) cap') ∧ W'.ownsRow base 33 2 (.slice (some ⟨g', 0, none⟩) (L.length + 1) cap') (L.length + 1) (flat2 (p0 :: L)) ∧ Below base w W' := by
  obtain ⟨i0, hi, hz0, hz1, hz2⟩ := info_parts info_pt
  refine (callsIn_wide (n := 9)).1 ?_
  refine callsIn_of_wp_marks Try.func39 rfl trivial ?_ rfl
  simp only [Try.ntmps39, List.size_toArray, List.length_cons, List.length_nil, Nat.reduceAdd, Nat.reduceSub, Array.replicate_succ, Array.replicate_zero, List.push_toArray, List.append_toArray, List.nil_append, List.cons_append]
  gi_wp2
  have bS := Boxed.new w 22 (.slice (some ⟨g, 0, none⟩) 1 cap)
  have hB0 := al1 w (.cells #[.slice (some ⟨g, 0, none⟩) 1 cap] 22)
  have hsz : (w.alloc (.cells #[.slice (some ⟨g, 0, none⟩) 1 cap] 22)).heap.size = w.heap.size + 1 := by simp
  obtain ⟨W0, hW0⟩ : ∃ W0, w.alloc (.cells #[.slice (some ⟨g, 0, none⟩) 1 cap] 22) = W0 := ⟨_, rfl⟩
  rw [hW0] at bS hB0 hsz ⊢
  clear hW0
  have hseq0 : SeqX Try.prog 48 #[.pointer (some ⟨Bp, 0, none⟩)] (fun p : Pt => #[ptV p]) 36 base N L W0 := fun n l J b0 W hW => hseq n l J b0 W (hB0.trans (hW.mono (by omega)))
  refine range_x (gf := 48) (lb := #[.pointer (some ⟨Bp, 0, none⟩)]) rfl (enters_of Try.func48 (by kernel_rfl) rfl)
    hseq0 (by omega) (fun _ => rfl)
    (fun pre b X => ∃ cp, (Boxed X w.heap.size 22 (.slice (some ⟨b, 0, none⟩) (pre.length + 1) cp) ∧ X.ownsRow base 33 2 (.slice (some ⟨b, 0, none⟩) (pre.length + 1) cp) (pre.length + 1) (flat2 (p0 :: pre))) ∧ Below base w X)
    (fun pre b X Y row hs hgr hr => by
      obtain ⟨cp, ⟨h1, h2⟩, h3⟩ := hs
      exact ⟨cp, ⟨h1.kept hgr (fun e => by have := (hr _ e.symm).1; omega), h2.kept hgr (.inr fun e => (hr b (by simpa [Value.ownBlock] using e.symm)).2 rfl)⟩, h3.grown hgr (by have := h3.size; omega) (fun k e => by have := (hr k e).1; omega)⟩)
    (fun pre b X hs => by
      obtain ⟨cp, ⟨_, h2⟩, _⟩ := hs
      rcases h2.2 with ⟨h, _⟩ | ⟨g', cap', cur, h, _, hc, _⟩
      · cases h
      · cases h
        exact ⟨_, _, _, hc, by decide⟩)
    g (by omega) ⟨cap, ⟨bS, own_keep hrow hB0⟩, hB0.mono hb⟩
    (fun x a' b X => ∃ Bx, w.heap.size < Bx ∧ Box2 X Bx 33 x.1 x.2 ∧ a' = { tmps := #[.slice (some ⟨g, 0, none⟩) 1 cap, .func (.func 48) #[] #[.pointer (some ⟨Bp, 0, none⟩)], .pointer (some ⟨w.heap.size, 0, none⟩), undef, .slice none 0 0, .pointer (some ⟨Bx, 0, none⟩), .func (.func 48) #[] #[.pointer (some ⟨Bp, 0, none⟩)], ptV x, undef, undef, undef, undef, undef], defers := [] })
    (fun x a' b X l o o' h hl => by
      obtain ⟨Bx, h1, h2, h3⟩ := h
      have hne : some Bx ≠ some l := by
        intro e
        have e' : Bx = l := by simpa using e
        have h4 := show X.heap[Bx]? = _ from h2
        rw [e', hl] at h4
        simp at h4
      exact ⟨Bx, h1, h2.kept (grownBy_putObj' _ _ _) hne, h3⟩)
    ?assign ?body ?done
  case assign =>
    rintro k l pre b x X K ⟨cp, ⟨h1, h2⟩, h3⟩ hz hK
    dsimp only [ptV]
    gi_wp2
    exact hK _ _ (KpX.of (by have := h3.size; omega) (al1 _ _)) ⟨cp, ⟨h1.alloc _, h2.alloc _⟩, h3.alloc (by have := h3.size; omega) _⟩ ⟨X.heap.size, by omega, Box2.new X _ _ _, rfl⟩
  case body =>
    rintro k l pre b x a' X ⟨cp, ⟨h1, h2⟩, h3⟩ hz ⟨Bx, hBx, bX, rfl⟩ hlt
    have cS := h1.cell
    obtain ⟨x0, x1, _, _⟩ := bX.ow
    have HO := Lib.hid h2
    have hsX := h3.size
    clear h2
    gi_wp2_with (gi_at_builtin; refine wpListIn_append_blk _ rfl (.tmp 8) (.tmp 10) 22 rfl base 33 i0 (.agg #[.int .i64 0, .int .i64 0]) 2 16 Try.underlying22 hi hz0 hz1 hz2 rfl (by decide) b _ cp _ rfl (HO.out.alloc _) ⟨X.heap.size, 0, none⟩ 1 1 [.int .i64 x.1, .int .i64 x.2] rfl rfl (cell2_new _ _ _ _) (by simp [Value.oneCell']) (by unfold maxLen; omega) (by omega) (by simp; omega) ?_; intro g' cap' w1 hg' hown' hgrow; obtain ⟨hv1, hv2, hr2, hk2, hb2⟩ := h1.appended (by decide) HO.out (by omega) hb hown' hgrow; have hc1 := hv1.cell; have hf1 := hv1.frozen)
    simp only [World.size_alloc] at hg'
    refine ⟨⟨hb2, fun q q1 q2 q3 => ((Below.heap_setCell _ _ _ _ (by simp; omega)).trans (hgrow.block q (by simp; omega) (fun e => q3 (by simpa using e)))).trans (Below.heap_alloc X _ q q2)⟩, g', ⟨⟨cap', hv2, ?_⟩, h3.trans hb2⟩, by omega⟩
    rw [show p0 :: (pre ++ [x]) = (p0 :: pre) ++ [x] from rfl, flat2_snoc]
    exact hr2
  case done =>
    rintro D b X hD ⟨cp, ⟨h1, h2⟩, h3⟩ hDb hK
    have cS := h1.cell
    gi_wp2
    refine ⟨by simp, .inl ⟨_, _, rfl, run_takeDeferred hK, ?_⟩⟩
    exact ⟨_, results_tmp rfl _ _ _, b, cp, rfl, ownsRow_putObj h2 _ hK rfl, h3.trans (belowK_b (w := w) hb X D _ _ (by omega) hK rfl rfl)⟩
end Go.Proofs.Ytllhdalfhhjigaa
