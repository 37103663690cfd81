/-
  The landed Parse. Condition: the table of powers of ten is laid.
  The landed ParseAttrs. Condition: the table of powers of ten is laid.
  The landed parser answers as its plain function says. Condition: the table of powers of ten is laid.
-/
import Derived.Test.YtgccheiemnpaoaaGreatDoorMPk
import Derived.Test.YtgccheiemnpaoaaGreatDoorParCk
import Derived.Test.YtgccheiemnpaoaaGreatDoorMPo
namespace Go.Proofs.YtgccheiemnpaoaaGreatDoor.par
open Go.RowKit lex tre prt

/-- Parse's last step where it panics: its deferred closure takes the panic. -/
theorem pa_pan (n0 : Nat) (x0 x1 x5 x6 x7 x8 x9 x10 x11 x12 x13 x14 x15 : Value) (n k : Int) (a b c d e : Value) (w w1 : World) (h0 : Hid (blk w1 n0 24 #[a, b, c])) (h1 : Hid (blk w1 (n0 + 1) 3 #[d])) (h2 : Hid (blk w1 (n0 + 2) 26 #[e])) (hn : w.heap.size = n0) (hb : Below n0 w w1) :
    bodyPostD Tryz.prog Tryz.f10 (ParOut T00 n k w) (.panic (pan n k)) { tmps := #[x0, x1, .pointer (some ⟨n0, 0, none⟩), .pointer (some ⟨n0 + 1, 0, none⟩), .pointer (some ⟨n0 + 2, 0, none⟩), x5, x6, x7, x8, x9, x10, x11, x12, x13, x14, x15], defers := [{ target := .fn (.func 20) #[.pointer (some ⟨n0, 0, none⟩), .pointer (some ⟨n0 + 1, 0, none⟩), .pointer (some ⟨n0 + 2, 0, none⟩)], args := #[] }] } w1 := by
  refine leaves_cons (f := 20) (args := #[.pointer (some ⟨n0, 0, none⟩), .pointer (some ⟨n0 + 1, 0, none⟩), .pointer (some ⟨n0 + 2, 0, none⟩)]) (by simp) (by simp [go_sem]) ?_
  refine (ct_pan n0 n k a b c d e w1 h0 h1 h2).mono ?_
  rintro e u' w2 ⟨rfl, ⟨q, rfl⟩, b0, b1, b2, hb2⟩
  obtain ⟨a0, a1, a2, -, -, -⟩ := tr3 b0
  have c1 : w2.cell? ⟨n0 + 1, 0, none⟩ = some (.int .i64 n) := by rw [blk_cell b1]; rfl
  have c2 : w2.cell? ⟨n0 + 2, 0, none⟩ = some (.int .i64 k) := by rw [blk_cell b2]; rfl
  refine ⟨.tuple #[.agg #[.string ⟨#[]⟩, .bool false, .slice none 0 0], .int .i64 n, .int .i64 k], ?_, _, rfl, ⟨_, rfl, Nat.zero_le _, Sts.nil _⟩, ?_⟩
  · simp [results, Tryz.results10, go_sem, a0, a1, a2, c1, c2]
  · rw [hn]; exact hb.trans hb2
/-- Parse's last step where it returns. -/
theorem pa_ret (n0 : Nat) (x0 x1 x5 x6 x7 x8 x9 x10 x11 x12 x13 x14 x15 : Value) (T : Tr) (bo : Option Addr) (bc : Nat) (w w1 : World) (h0 : Hid (blk w1 n0 24 #[.string (bb T.name), .bool T.dir, .slice bo T.body.length bc])) (h1 : Hid (blk w1 (n0 + 1) 3 #[.int .i64 0])) (h2 : Hid (blk w1 (n0 + 2) 26 #[.int .i64 0])) (hT : Hid (TrV w1 (.agg #[.string (bb T.name), .bool T.dir, .slice bo T.body.length bc]) T)) (hn : w.heap.size = n0) (hb : Below n0 w w1) :
    bodyPostD Tryz.prog Tryz.f10 (ParOut T 0 0 w) .ret { tmps := #[x0, x1, .pointer (some ⟨n0, 0, none⟩), .pointer (some ⟨n0 + 1, 0, none⟩), .pointer (some ⟨n0 + 2, 0, none⟩), x5, x6, x7, x8, x9, x10, x11, x12, x13, x14, x15], defers := [{ target := .fn (.func 20) #[.pointer (some ⟨n0, 0, none⟩), .pointer (some ⟨n0 + 1, 0, none⟩), .pointer (some ⟨n0 + 2, 0, none⟩)], args := #[] }] } w1 := by
  refine leaves_cons (f := 20) (args := #[.pointer (some ⟨n0, 0, none⟩), .pointer (some ⟨n0 + 1, 0, none⟩), .pointer (some ⟨n0 + 2, 0, none⟩)]) (by simp) (by simp [go_sem]) ?_
  refine (ct_ret n0 (n0 + 1) (n0 + 2) w1).mono ?_
  rintro e u' w2 ⟨rfl, rfl, hb2⟩
  have b0 := (Pk.below (R := w1.heap.size) hb2).blk (Nat.ne_of_lt (blk_lt h0.out)) h0.out
  have b1 := (Pk.below (R := w1.heap.size) hb2).blk (Nat.ne_of_lt (blk_lt h1.out)) h1.out
  have b2 := (Pk.below (R := w1.heap.size) hb2).blk (Nat.ne_of_lt (blk_lt h2.out)) h2.out
  obtain ⟨a0, a1, a2, -, -, -⟩ := tr3 b0
  have c1 : w2.cell? ⟨n0 + 1, 0, none⟩ = some (.int .i64 0) := by rw [blk_cell b1]; rfl
  have c2 : w2.cell? ⟨n0 + 2, 0, none⟩ = some (.int .i64 0) := by rw [blk_cell b2]; rfl
  have hz := blk_lt h0.out
  refine ⟨.tuple #[.agg #[.string (bb T.name), .bool T.dir, .slice bo T.body.length bc], .int .i64 0, .int .i64 0], ?_, _, rfl, hT.out.keep hb2, ?_⟩
  · simp [results, Tryz.results10, go_sem, a0, a1, a2, c1, c2]
  · rw [hn]; exact hb.trans (hb2.mono (by omega))
/-- Parse, walked where its source has an error in its tokens. -/
theorem three_blk (w : World) (a b c : Obj) : ((w.alloc a).alloc b).alloc c = ((w.alloc a).alloc b).alloc c ∧ Below w.heap.size w (((w.alloc a).alloc b).alloc c) := ⟨rfl, below_keep (al1 ..) (below_keep (al1 ..) (al1 ..))⟩
theorem three_at (w : World) (A B C : Array Value) (a b c : TypeId) : blk (((w.alloc (.cells A a)).alloc (.cells B b)).alloc (.cells C c)) w.heap.size a A ∧ blk (((w.alloc (.cells A a)).alloc (.cells B b)).alloc (.cells C c)) (w.heap.size + 1) b B ∧ blk (((w.alloc (.cells A a)).alloc (.cells B b)).alloc (.cells C c)) (w.heap.size + 2) c C := by
  refine ⟨?_, ?_, ?_⟩
  · show (((w.alloc (.cells A a)).alloc (.cells B b)).alloc (.cells C c)).heap[w.heap.size]? = _
    rw [heap_alloc_old _ _ (by simp; omega), heap_alloc_old _ _ (by simp)]; exact heap_alloc_new w _
  · show (((w.alloc (.cells A a)).alloc (.cells B b)).alloc (.cells C c)).heap[w.heap.size + 1]? = _
    rw [heap_alloc_old _ _ (by simp)]
    have := heap_alloc_new (w.alloc (.cells A a)) (.cells B b)
    simpa using this
  · have := heap_alloc_new ((w.alloc (.cells A a)).alloc (.cells B b)) (.cells C c)
    unfold blk
    simpa using this
set_option maxRecDepth 100000 in
theorem parse_tok (s : ByteArray) (L : List Tok) (n k : Int) (w : World) (hs : s.size ≤ maxLen) (h : Hid (tokE s.data.toList = (L, n, k))) (hk : k ≠ 0) :
    Calls Tryz.prog 10 #[.string s] w (ParOut T00 n k w) := by
  have hmf : ∀ (fn : Fn) (first cap : Array Value) (w : World), (Instr.makeFunc fn first cap).run Tryz.prog w = .ok (.func fn first cap) w := fun _ _ _ _ => rfl
  obtain ⟨k0, k1, k2⟩ := three_at w trZ #[.int .i64 0] #[.int .i64 0] 24 3 26
  have hb0 := (three_blk w (.cells trZ 24) (.cells #[.int .i64 0] 3) (.cells #[.int .i64 0] 26)).2
  have K0 := Lib.hid k0
  have K1 := Lib.hid k1
  have K2 := Lib.hid k2
  have HB0 := Lib.hid hb0
  clear k0 k1 k2 hb0
  go_enter_defers Tryz.func10, Tryz.ntmps10
  go_wp2_with fail
  refine (reader_no s L n k _ hs h hk).mono ?_
  rintro e w1 ⟨rfl, hb⟩
  go_wp2
  have pk := fun g => Pk.below (R := g) hb
  exact pa_pan w.heap.size _ _ _ _ _ _ _ _ _ _ _ _ _ n k _ _ _ _ _ w w1 (Lib.hid ((pk _).blk (Nat.ne_of_lt (blk_lt K0.out)) K0.out)) (Lib.hid ((pk _).blk (Nat.ne_of_lt (blk_lt K1.out)) K1.out)) (Lib.hid ((pk _).blk (Nat.ne_of_lt (blk_lt K2.out)) K2.out)) rfl (below_keep hb HB0.out)
/-- Parse, walked where its tokens are free of errors. -/
theorem fin_er {α : Type} {z : α} {V : α → Int} {L r : List Tok} {c : Int} {x : Rz α} {T : α} {n k : Int} (h : finA z V L (endR x) = (T, n, k)) (hx : x = .er c r) : T = z ∧ n = lineOf L r ∧ k = c := by
  subst hx; cases h; exact ⟨rfl, rfl, rfl⟩
theorem fin_more {α : Type} {z : α} {V : α → Int} {L r : List Tok} {a : α} {x : Rz α} {T : α} {n k : Int} (h : finA z V L (endR x) = (T, n, k)) (hx : x = .ok a r) (hr : r.isEmpty = false) : T = z ∧ n = lineOf L r ∧ k = 4 := by
  subst hx
  unfold endR at h
  rw [bnd_ok, hr] at h
  cases h; exact ⟨rfl, rfl, rfl⟩
theorem fin_bad {α : Type} {z : α} {V : α → Int} {L r : List Tok} {a : α} {x : Rz α} {T : α} {n k : Int} (h : finA z V L (endR x) = (T, n, k)) (hx : x = .ok a r) (hr : r.isEmpty = true) (hv : V a ≠ 0) : T = z ∧ n = 0 ∧ k = V a := by
  subst hx
  unfold endR at h
  rw [bnd_ok, hr] at h
  simp only [if_true] at h
  unfold finA at h
  simp only at h
  rw [if_pos hv] at h
  cases h; exact ⟨rfl, rfl, rfl⟩
theorem fin_good {α : Type} {z : α} {V : α → Int} {L r : List Tok} {a : α} {x : Rz α} {T : α} {n k : Int} (h : finA z V L (endR x) = (T, n, k)) (hx : x = .ok a r) (hr : r.isEmpty = true) (hv : V a = 0) : T = a ∧ n = 0 ∧ k = 0 := by
  subst hx
  unfold endR at h
  rw [bnd_ok, hr] at h
  simp only [if_true] at h
  unfold finA at h
  simp only at h
  rw [if_neg (fun e => e hv)] at h
  cases h; exact ⟨rfl, rfl, rfl⟩
theorem sm_below {lo : Nat} {a b c : World} (h : Sm lo a b) (k : Below b.heap.size b c) : Sm lo a c := ⟨Nat.le_trans h.1 k.size, fun q h1 h2 => (k.block q (Nat.lt_of_lt_of_le h2 h.1)).trans (h.2 q h1 h2)⟩
theorem below_pk {n R : Nat} {a b c : World} (h : Below n a b) (k : Pk R b c) (hR : n ≤ R) (hs : n ≤ b.heap.size) : Below n a c := ⟨k.os.trans h.os, k.tape.trans h.tape, k.output.trans h.output, Nat.le_trans h.size k.size, fun q hq => (k.block q (by omega) (by omega)).trans (h.block q hq)⟩
theorem tok_line {l : List UInt8} {L : List Tok} {n k : Int} (h : tokE l = (L, n, k)) (hk : k = 0) : n = 0 := by
  unfold tokE at h
  split at h
  · cases h; exact absurd hk (by decide)
  · have h1 := tkz_line0 prL l.length l 1 false (Nat.le_refl _)
    rw [h] at h1
    exact h1 hk
set_option maxRecDepth 100000 in
set_option maxHeartbeats 1600000 in
theorem parse_go (s : ByteArray) (L : List Tok) (T : Tr) (n k : Int) (w : World) (hs : s.size ≤ maxLen) (htb : Hid (Tab w)) (h : Hid (tokE s.data.toList = (L, 0, 0))) (hf : Hid (finA T00 validT L (endR (treeR fmtL L)) = (T, n, k))) :
    Calls Tryz.prog 10 #[.string s] w (ParOut T n k w) := by
  have hmf : ∀ (fn : Fn) (first cap : Array Value) (w : World), (Instr.makeFunc fn first cap).run Tryz.prog w = .ok (.func fn first cap) w := fun _ _ _ _ => rfl
  obtain ⟨k0, k1, k2⟩ := three_at w trZ #[.int .i64 0] #[.int .i64 0] 24 3 26
  have hb0 := (three_blk w (.cells trZ 24) (.cells #[.int .i64 0] 3) (.cells #[.int .i64 0] 26)).2
  have K0 := Lib.hid k0
  have K1 := Lib.hid k1
  have K2 := Lib.hid k2
  have HB0 := Lib.hid hb0
  have HTb := Lib.hid (tab_below htb.out hb0)
  have HTA : Hid (∀ W, agree 0 w.heap.size w W → Tab W) := Lib.hid fun W hW => tab_agree hW htb.out
  have hL := Lib.hid (tokL_of h.out)
  have hz : w.heap.size + 2 < (((w.alloc (.cells trZ 24)).alloc (.cells #[.int .i64 0] 3)).alloc (.cells #[.int .i64 0] 26)).heap.size := blk_lt k2
  have HZ := Lib.hid hz
  clear k0 k1 k2 hb0 hz htb
  go_enter_defers Tryz.func10, Tryz.ntmps10
  go_wp2_with fail
  refine (reader_ok s L _ hs HTb h).mono ?_
  rintro e w1 ⟨R, rfl, hR, hrd, hb⟩
  have hR0 : w.heap.size ≠ R := by have := HZ.out; omega
  have hR1 : w.heap.size + 1 ≠ R := by have := HZ.out; omega
  have hR2 : w.heap.size + 2 ≠ R := by have := HZ.out; omega
  have HRd := Lib.hid hrd
  have K0' := Lib.hid ((Pk.below (R := R) hb).blk hR0 K0.out)
  have K1' := Lib.hid ((Pk.below (R := R) hb).blk hR1 K1.out)
  have K2' := Lib.hid ((Pk.below (R := R) hb).blk hR2 K2.out)
  have HB1 := Lib.hid (below_keep hb HB0.out)
  have HRw : Hid (w.heap.size + 2 < R) := Lib.hid (by have := HZ.out; omega)
  have HRl := Lib.hid hrd.lt
  clear K0 K1 K2 HB0 hb hrd HTb h HZ hR
  go_wp2_with fail
  refine (tree_of L hL R L ⟨#[]⟩ _ w1 HRd (Lib.hid rfl)).mono ?_
  rintro e w2 ⟨A', hp2, hx2⟩
  have K0 := Lib.hid (hp2.blk hR0 K0'.out)
  have K1 := Lib.hid (hp2.blk hR1 K1'.out)
  have K2 := Lib.hid (hp2.blk hR2 K2'.out)
  clear K0' K1' K2'
  have HB2 : Hid (Below w.heap.size w w2) := Lib.hid (below_pk HB1.out hp2 (by have := HRw.out; omega) (by have := HRw.out; have := HRl.out; omega))
  have HRl2 : Hid (R < w2.heap.size) := Lib.hid (Nat.lt_of_lt_of_le HRl.out hp2.size)
  rcases hn2 : treeR fmtL L with ⟨T', r⟩ | ⟨c, r⟩
  rotate_left
  · rw [hn2] at hx2
    obtain rfl := hx2
    obtain ⟨rfl, rfl, rfl⟩ := fin_er hf.out hn2
    go_wp2
    exact pa_pan w.heap.size _ _ _ _ _ _ _ _ _ _ _ _ _ _ _ _ _ _ _ _ w w2 K0 K1 K2 rfl HB2.out
  rw [hn2] at hx2
  obtain ⟨v, rfl, ⟨bo, bc, rfl, hnm, hself⟩, hr2⟩ := hx2
  have HS := Lib.hid hself
  have HN := Lib.hid hn2
  have HNm := Lib.hid hnm
  have HCn : Hid (cnt T'.body ≤ 60000) := Lib.hid (by have := tree_cnt hn2; have := hL.out.1; omega)
  obtain ⟨a0, a1, a2, f0, f1, f2⟩ := tr3 K0.out
  obtain ⟨X, hX⟩ : ∃ X, bb T'.name = X := ⟨_, rfl⟩
  have HX := Lib.hid hX
  rw [hX]
  have HTA2 : Hid (∀ W, agree 0 w.heap.size w2 W → Tab W) := Lib.hid fun W hW => HTA.out W fun q q1 q2 => by rw [hW q q1 q2]; exact HB2.out.block q q2
  have HC2 : Hid (∀ o k n, w2.cell? ⟨w.heap.size, o, none⟩ ≠ some (.int k n)) := Lib.hid (fun o k n hq => by rw [blk_cell K0.out] at hq; rcases o with _ | _ | _ | o <;> simp at hq)
  have HR3 : Hid (Rd L R (((w2.setCell ⟨w.heap.size, 0, none⟩ (.string X)).setCell ⟨w.heap.size, 1, none⟩ (.bool T'.dir)).setCell ⟨w.heap.size, 2, none⟩ (.slice bo T'.body.length bc)) r A' 0) := Lib.hid (hr2.res (by have := HRw.out; omega) HC2.out HTA2.out (fun q hq => by rw [Below.heap_setCell _ _ _ _ hq, Below.heap_setCell _ _ _ _ hq, Below.heap_setCell _ _ _ _ hq]))
  have K03 : Hid (blk (((w2.setCell ⟨w.heap.size, 0, none⟩ (.string X)).setCell ⟨w.heap.size, 1, none⟩ (.bool T'.dir)).setCell ⟨w.heap.size, 2, none⟩ (.slice bo T'.body.length bc)) w.heap.size 24 #[.string X, .bool T'.dir, .slice bo T'.body.length bc]) := Lib.hid (by have h := blk_set (o := 2) (blk_set (o := 1) (blk_set (o := 0) K0.out (.string X)) (.bool T'.dir)) (.slice bo T'.body.length bc); simpa using h)
  have K13 := Lib.hid (blk_far (o := 2) (blk_far (o := 1) (blk_far (o := 0) K1.out (show w.heap.size + 1 ≠ w.heap.size by omega) (.string X)) (show w.heap.size + 1 ≠ w.heap.size by omega) (.bool T'.dir)) (show w.heap.size + 1 ≠ w.heap.size by omega) (.slice bo T'.body.length bc))
  have K23 := Lib.hid (blk_far (o := 2) (blk_far (o := 1) (blk_far (o := 0) K2.out (show w.heap.size + 2 ≠ w.heap.size by omega) (.string X)) (show w.heap.size + 2 ≠ w.heap.size by omega) (.bool T'.dir)) (show w.heap.size + 2 ≠ w.heap.size by omega) (.slice bo T'.body.length bc))
  have HZ1 : Hid (w.heap.size < w1.heap.size) := Lib.hid (by have := HRw.out; have := HRl.out; omega)
  have HS3 := Lib.hid ((((Sm.refl w1.heap.size w2).store (o := 0) (Or.inl HZ1.out) (.string X)).store (o := 1) (Or.inl HZ1.out) (.bool T'.dir)).store (o := 2) (Or.inl HZ1.out) (.slice bo T'.body.length bc))
  have HB3 := Lib.hid (bl_set (o := 2) (v := .slice bo T'.body.length bc) (Nat.le_refl _) (bl_set (o := 1) (v := .bool T'.dir) (Nat.le_refl _) (bl_set (o := 0) (v := .string X) (Nat.le_refl _) HB2.out)))
  have HRl3 : Hid (R < (((w2.setCell ⟨w.heap.size, 0, none⟩ (.string X)).setCell ⟨w.heap.size, 1, none⟩ (.bool T'.dir)).setCell ⟨w.heap.size, 2, none⟩ (.slice bo T'.body.length bc)).heap.size) := Lib.hid HR3.out.lt
  clear hp2 hself hnm hn2 hr2 K0 K1 K2 HB2 HRl2 HC2 HTA2 hX
  go_wp2_with fail
  clear a0 a1 a2 f0 f1 f2
  generalize (((w2.setCell ⟨w.heap.size, 0, none⟩ (.string X)).setCell ⟨w.heap.size, 1, none⟩ (.bool T'.dir)).setCell ⟨w.heap.size, 2, none⟩ (.slice bo T'.body.length bc)) = w3 at HR3 K03 K13 K23 HS3 HB3 HRl3 ⊢
  refine (end_of L R r A' 0 _ w3 HR3 (Lib.hid rfl)).mono ?_
  rintro e w4 ⟨hp4, hx4⟩
  have K0 := Lib.hid (hp4.blk hR0 K03.out)
  have K1 := Lib.hid (hp4.blk hR1 K13.out)
  have K2 := Lib.hid (hp4.blk hR2 K23.out)
  have HB4 : Hid (Below w.heap.size w w4) := Lib.hid (below_pk HB3.out hp4 (by have := HRw.out; omega) (by have := HRw.out; have := HRl3.out; omega))
  have HS4 := Lib.hid (HS3.out.pk hp4 HRl.out)
  clear K03 K13 K23 HB3 HS3 HRl3
  cases hr : r.isEmpty
  · rw [hr] at hx4
    obtain rfl := hx4
    obtain ⟨rfl, rfl, rfl⟩ := fin_more hf.out HN.out hr
    go_wp2
    exact pa_pan w.heap.size _ _ _ _ _ _ _ _ _ _ _ _ _ _ _ _ _ _ _ _ w w4 K0 K1 K2 rfl HB4.out
  have HE := Lib.hid hr
  rw [hr] at hx4
  obtain ⟨v, rfl, rfl, -⟩ := hx4
  have HTr : Hid (TrV w4 (.agg #[.string X, .bool T'.dir, .slice bo T'.body.length bc]) T') := Lib.hid ⟨_, by rw [← HX.out], HNm.out, HS.out.sm HS4.out (Nat.le_refl _) (agree.self _ _ _)⟩
  obtain ⟨a0, a1, a2, f0, f1, f2⟩ := tr3 K0.out
  clear hp4 hr HR3
  go_wp2_with fail
  by_cases hv : validT T' = 0
  case neg =>
    obtain ⟨rfl, rfl, rfl⟩ := fin_bad hf.out HN.out HE.out hv
    refine (check_no _ T' _ w4 HTr HCn.out (Lib.hid rfl) hv).mono ?_
    rintro e w5 ⟨rfl, hb5⟩
    have pk := fun g => Pk.below (R := g) hb5
    go_wp2
    exact pa_pan w.heap.size _ _ _ _ _ _ _ _ _ _ _ _ _ _ _ _ _ _ _ _ w w5 (Lib.hid ((pk _).blk (Nat.ne_of_lt (blk_lt K0.out)) K0.out)) (Lib.hid ((pk _).blk (Nat.ne_of_lt (blk_lt K1.out)) K1.out)) (Lib.hid ((pk _).blk (Nat.ne_of_lt (blk_lt K2.out)) K2.out)) rfl (below_keep hb5 HB4.out)
  obtain ⟨rfl, rfl, rfl⟩ := fin_good hf.out HN.out HE.out hv
  refine (check_ok _ T w4 HTr HCn.out (Lib.hid hv)).mono ?_
  rintro e w5 ⟨rfl, hb5⟩
  have K05 := Lib.hid ((Pk.below (R := w4.heap.size) hb5).blk (Nat.ne_of_lt (blk_lt K0.out)) K0.out)
  have K15 := Lib.hid ((Pk.below (R := w4.heap.size) hb5).blk (Nat.ne_of_lt (blk_lt K1.out)) K1.out)
  have K25 := Lib.hid ((Pk.below (R := w4.heap.size) hb5).blk (Nat.ne_of_lt (blk_lt K2.out)) K2.out)
  have HB5 := Lib.hid (below_keep hb5 HB4.out)
  have HS5 : Hid (Sm w1.heap.size w2 w5) := Lib.hid (sm_below HS4.out hb5)
  clear a0 a1 a2 f0 f1 f2 hb5 K0 K1 K2 HB4 HS4 HTr
  obtain ⟨a0, a1, a2, f0, f1, f2⟩ := tr3 K05.out
  have c1 : w5.cell? ⟨w.heap.size + 1, 0, none⟩ = some (.int .i64 0) := by rw [blk_cell K15.out]; rfl
  have c2 : w5.cell? ⟨w.heap.size + 1 + 1, 0, none⟩ = some (.int .i64 0) := by rw [blk_cell (g := w.heap.size + 2) K25.out]; rfl
  have g1 : w5.frozen? ⟨w.heap.size + 1, 0, none⟩ = false := blk_free K15.out
  have g2 : w5.frozen? ⟨w.heap.size + 1 + 1, 0, none⟩ = false := blk_free (g := w.heap.size + 2) K25.out
  go_wp2
  obtain rfl := HX.out
  have K06 : Hid (blk (((((w5.setCell ⟨w.heap.size, 0, none⟩ (.string (bb T.name))).setCell ⟨w.heap.size, 1, none⟩ (.bool T.dir)).setCell ⟨w.heap.size, 2, none⟩ (.slice bo T.body.length bc)).setCell ⟨w.heap.size + 1, 0, none⟩ (.int .i64 0)).setCell ⟨w.heap.size + 1 + 1, 0, none⟩ (.int .i64 0)) w.heap.size 24 #[.string (bb T.name), .bool T.dir, .slice bo T.body.length bc]) := Lib.hid (by have h := (blk_far (o := 0) (blk_far (o := 0) (blk_set (o := 2) (blk_set (o := 1) (blk_set (o := 0) K05.out (.string (bb T.name))) (.bool T.dir)) (.slice bo T.body.length bc)) (show w.heap.size ≠ w.heap.size + 1 by omega) (.int .i64 0)) (show w.heap.size ≠ w.heap.size + 1 + 1 by omega) (.int .i64 0)); simpa using h)
  have K16 : Hid (blk (((((w5.setCell ⟨w.heap.size, 0, none⟩ (.string (bb T.name))).setCell ⟨w.heap.size, 1, none⟩ (.bool T.dir)).setCell ⟨w.heap.size, 2, none⟩ (.slice bo T.body.length bc)).setCell ⟨w.heap.size + 1, 0, none⟩ (.int .i64 0)).setCell ⟨w.heap.size + 1 + 1, 0, none⟩ (.int .i64 0)) (w.heap.size + 1) 3 #[.int .i64 0]) := Lib.hid (by have h := (blk_far (o := 0) (blk_set (o := 0) (blk_far (o := 2) (blk_far (o := 1) (blk_far (o := 0) K15.out (show w.heap.size + 1 ≠ w.heap.size by omega) (.string (bb T.name))) (show w.heap.size + 1 ≠ w.heap.size by omega) (.bool T.dir)) (show w.heap.size + 1 ≠ w.heap.size by omega) (.slice bo T.body.length bc)) (.int .i64 0)) (show w.heap.size + 1 ≠ w.heap.size + 1 + 1 by omega) (.int .i64 0)); simpa using h)
  have K26 : Hid (blk (((((w5.setCell ⟨w.heap.size, 0, none⟩ (.string (bb T.name))).setCell ⟨w.heap.size, 1, none⟩ (.bool T.dir)).setCell ⟨w.heap.size, 2, none⟩ (.slice bo T.body.length bc)).setCell ⟨w.heap.size + 1, 0, none⟩ (.int .i64 0)).setCell ⟨w.heap.size + 1 + 1, 0, none⟩ (.int .i64 0)) (w.heap.size + 2) 26 #[.int .i64 0]) := Lib.hid (by have h := (blk_set (o := 0) (blk_far (o := 0) (blk_far (o := 2) (blk_far (o := 1) (blk_far (o := 0) K25.out (show w.heap.size + 2 ≠ w.heap.size by omega) (.string (bb T.name))) (show w.heap.size + 2 ≠ w.heap.size by omega) (.bool T.dir)) (show w.heap.size + 2 ≠ w.heap.size by omega) (.slice bo T.body.length bc)) (show w.heap.size + 2 ≠ w.heap.size + 1 by omega) (.int .i64 0)) (.int .i64 0)); simpa using h)
  have HB6 := Lib.hid (bl_set (n := w.heap.size) (g := w.heap.size + 1 + 1) (o := 0) (v := .int .i64 0) (by omega) (bl_set (n := w.heap.size) (g := w.heap.size + 1) (o := 0) (v := .int .i64 0) (by omega) (bl_set (o := 2) (v := .slice bo T.body.length bc) (Nat.le_refl _) (bl_set (o := 1) (v := .bool T.dir) (Nat.le_refl _) (bl_set (o := 0) (v := .string (bb T.name)) (Nat.le_refl _) HB5.out)))))
  have HS6 := Lib.hid (((((HS5.out.store (o := 0) (Or.inl HZ1.out) (.string (bb T.name))).store (o := 1) (Or.inl HZ1.out) (.bool T.dir)).store (o := 2) (Or.inl HZ1.out) (.slice bo T.body.length bc)).store (g := w.heap.size + 1) (o := 0) (Or.inl (by have := HRw.out; have := HRl.out; omega)) (.int .i64 0)).store (g := w.heap.size + 1 + 1) (o := 0) (Or.inl (by have := HRw.out; have := HRl.out; omega)) (.int .i64 0))
  exact pa_ret w.heap.size _ _ _ _ _ _ _ _ _ _ _ _ _ T bo bc w _ K06 K16 K26 (Lib.hid ⟨_, rfl, HNm.out, HS.out.sm HS6.out (Nat.le_refl _) (agree.self _ _ _)⟩) rfl HB6.out
theorem parse_of (s : ByteArray) (T : Tr) (n e : Int) (w : World) (hs : s.size ≤ maxLen) (htb : Hid (Tab w)) (h : Hid (parE s.data.toList = (T, n, e))) : Calls Tryz.prog 10 #[.string s] w (ParOut T n e w) := by
  have hh := h.out
  unfold parE parA at hh
  rcases ht : tokE s.data.toList with ⟨L, l0, k0⟩
  rw [ht] at hh
  simp only at hh
  by_cases hk : k0 = 0
  · rw [if_neg (fun q => q hk)] at hh
    obtain rfl : l0 = 0 := tok_line ht hk
    subst hk
    exact parse_go s L T n e w hs htb (Lib.hid ht) (Lib.hid hh)
  · rw [if_pos hk] at hh
    cases hh
    exact parse_tok s L n e w hs (Lib.hid ht) hk
end Go.Proofs.YtgccheiemnpaoaaGreatDoor.par
namespace Go.Proofs.YtgccheiemnpaoaaGreatDoor.par
open Go.RowKit lex tre prt

abbrev atZ : Array Value := #[.slice none 0 0]
/-- ParseAttrs's last step where it panics: its deferred closure takes the panic. -/
theorem pt_pan (n0 : Nat) (x0 x1 x5 x6 x7 x8 x9 x10 x11 x12 x13 x14 x15 x16 x17 x18 x19 x20 : Value) (n k : Int) (a d e : Value) (w w1 : World) (h0 : Hid (blk w1 n0 35 #[a])) (h1 : Hid (blk w1 (n0 + 1) 3 #[d])) (h2 : Hid (blk w1 (n0 + 2) 26 #[e])) (hn : w.heap.size = n0) (hb : Below n0 w w1) :
    bodyPostD Tryz.prog Tryz.f13 (AtsOut [] n k w) (.panic (pan n k)) { tmps := #[x0, x1, .pointer (some ⟨n0, 0, none⟩), .pointer (some ⟨n0 + 1, 0, none⟩), .pointer (some ⟨n0 + 2, 0, none⟩), x5, x6, x7, x8, x9, x10, x11, x12, x13, x14, x15, x16, x17, x18, x19, x20], defers := [{ target := .fn (.func 26) #[.pointer (some ⟨n0, 0, none⟩), .pointer (some ⟨n0 + 1, 0, none⟩), .pointer (some ⟨n0 + 2, 0, none⟩)], args := #[] }] } w1 := by
  refine leaves_cons (f := 26) (args := #[.pointer (some ⟨n0, 0, none⟩), .pointer (some ⟨n0 + 1, 0, none⟩), .pointer (some ⟨n0 + 2, 0, none⟩)]) (by simp) (by simp [go_sem]) ?_
  refine (ca_pan n0 n k a d e w1 h0 h1 h2).mono ?_
  rintro e u' w2 ⟨rfl, ⟨q, rfl⟩, b0, b1, b2, hb2⟩
  have a0 : w2.cell? ⟨n0, 0, none⟩ = some (.slice none 0 0) := by rw [blk_cell b0]; rfl
  have c1 : w2.cell? ⟨n0 + 1, 0, none⟩ = some (.int .i64 n) := by rw [blk_cell b1]; rfl
  have c2 : w2.cell? ⟨n0 + 2, 0, none⟩ = some (.int .i64 k) := by rw [blk_cell b2]; rfl
  refine ⟨.tuple #[.slice none 0 0, .int .i64 n, .int .i64 k], ?_, _, rfl, Prs.nil _, ?_⟩
  · simp [results, Tryz.results13, go_sem, a0, c1, c2]
  · rw [hn]; exact hb.trans hb2
/-- ParseAttrs's last step where it returns. -/
theorem pt_ret (n0 : Nat) (x0 x1 x5 x6 x7 x8 x9 x10 x11 x12 x13 x14 x15 x16 x17 x18 x19 x20 : Value) (l : List Pr) (bo : Option Addr) (bc : Nat) (w w1 : World) (h0 : Hid (blk w1 n0 35 #[.slice bo l.length bc])) (h1 : Hid (blk w1 (n0 + 1) 3 #[.int .i64 0])) (h2 : Hid (blk w1 (n0 + 2) 26 #[.int .i64 0])) (hT : Hid (Prs w1 (.slice bo l.length bc) l)) (hn : w.heap.size = n0) (hb : Below n0 w w1) :
    bodyPostD Tryz.prog Tryz.f13 (AtsOut l 0 0 w) .ret { tmps := #[x0, x1, .pointer (some ⟨n0, 0, none⟩), .pointer (some ⟨n0 + 1, 0, none⟩), .pointer (some ⟨n0 + 2, 0, none⟩), x5, x6, x7, x8, x9, x10, x11, x12, x13, x14, x15, x16, x17, x18, x19, x20], defers := [{ target := .fn (.func 26) #[.pointer (some ⟨n0, 0, none⟩), .pointer (some ⟨n0 + 1, 0, none⟩), .pointer (some ⟨n0 + 2, 0, none⟩)], args := #[] }] } w1 := by
  refine leaves_cons (f := 26) (args := #[.pointer (some ⟨n0, 0, none⟩), .pointer (some ⟨n0 + 1, 0, none⟩), .pointer (some ⟨n0 + 2, 0, none⟩)]) (by simp) (by simp [go_sem]) ?_
  refine (ca_ret n0 (n0 + 1) (n0 + 2) w1).mono ?_
  rintro e u' w2 ⟨rfl, rfl, hb2⟩
  have b0 := (Pk.below (R := w1.heap.size) hb2).blk (Nat.ne_of_lt (blk_lt h0.out)) h0.out
  have b1 := (Pk.below (R := w1.heap.size) hb2).blk (Nat.ne_of_lt (blk_lt h1.out)) h1.out
  have b2 := (Pk.below (R := w1.heap.size) hb2).blk (Nat.ne_of_lt (blk_lt h2.out)) h2.out
  have a0 : w2.cell? ⟨n0, 0, none⟩ = some (.slice bo l.length bc) := by rw [blk_cell b0]; rfl
  have c1 : w2.cell? ⟨n0 + 1, 0, none⟩ = some (.int .i64 0) := by rw [blk_cell b1]; rfl
  have c2 : w2.cell? ⟨n0 + 2, 0, none⟩ = some (.int .i64 0) := by rw [blk_cell b2]; rfl
  have hz := blk_lt h0.out
  refine ⟨.tuple #[.slice bo l.length bc, .int .i64 0, .int .i64 0], ?_, _, rfl, hT.out.keep hb2, ?_⟩
  · simp [results, Tryz.results13, go_sem, a0, c1, c2]
  · rw [hn]; exact hb.trans (hb2.mono (by omega))
set_option maxRecDepth 100000 in
theorem ats_tok (s : ByteArray) (L : List Tok) (n k : Int) (w : World) (hs : s.size ≤ maxLen) (h : Hid (tokE s.data.toList = (L, n, k))) (hk : k ≠ 0) :
    Calls Tryz.prog 13 #[.string s] w (AtsOut [] n k w) := by
  have hmf : ∀ (fn : Fn) (first cap : Array Value) (w : World), (Instr.makeFunc fn first cap).run Tryz.prog w = .ok (.func fn first cap) w := fun _ _ _ _ => rfl
  obtain ⟨k0, k1, k2⟩ := three_at w atZ #[.int .i64 0] #[.int .i64 0] 35 3 26
  have hb0 := (three_blk w (.cells atZ 35) (.cells #[.int .i64 0] 3) (.cells #[.int .i64 0] 26)).2
  have K0 := Lib.hid k0
  have K1 := Lib.hid k1
  have K2 := Lib.hid k2
  have HB0 := Lib.hid hb0
  clear k0 k1 k2 hb0
  go_enter_defers Tryz.func13, Tryz.ntmps13
  go_wp2_with fail
  refine (reader_no s L n k _ hs h hk).mono ?_
  rintro e w1 ⟨rfl, hb⟩
  go_wp2
  have pk := fun g => Pk.below (R := g) hb
  exact pt_pan w.heap.size _ _ _ _ _ _ _ _ _ _ _ _ _ _ _ _ _ _ n k _ _ _ w w1 (Lib.hid ((pk _).blk (Nat.ne_of_lt (blk_lt K0.out)) K0.out)) (Lib.hid ((pk _).blk (Nat.ne_of_lt (blk_lt K1.out)) K1.out)) (Lib.hid ((pk _).blk (Nat.ne_of_lt (blk_lt K2.out)) K2.out)) rfl (below_keep hb HB0.out)
/-- The tree of one statement that holds the attributes. -/
theorem one_tr {W : World} {g : Nat} {v : Value} {l : List Pr} {t : TypeId} (hk : blk W g t #[.int .i64 1, .string ⟨#[97]⟩, .slice none 0 0, v, .slice none 0 0]) (hp : Prs W v l) : TrV W (.agg #[.string ⟨#[103]⟩, .bool false, .slice (some ⟨g, 0, none⟩) 1 1]) (oneT l) := by
  refine ⟨_, rfl, (by decide : 1 ≤ maxLen), ⟨some ⟨g, 0, none⟩, 1, rfl, Nat.le_refl _, by decide, fun _ => ⟨_, rfl, stsAt_of fun j hj => ?_⟩⟩⟩
  obtain rfl : j = 0 := by simpa [oneT] using hj
  rw [add_at]
  refine (stAt_eq _ _ _).2 ⟨?_, ?_, (by decide : 1 ≤ maxLen), ⟨_, ?_, Prs.nil W⟩, ⟨v, ?_, hp⟩, _, ?_, Sts.nil W⟩
  all_goals (try rw [add_at]); rw [blk_cell hk]; rfl
set_option maxRecDepth 100000 in
set_option maxHeartbeats 1600000 in
theorem ats_go (s : ByteArray) (L : List Tok) (T : List Pr) (n k : Int) (w : World) (hs : s.size ≤ maxLen) (htb : Hid (Tab w)) (h : Hid (tokE s.data.toList = (L, 0, 0))) (hf : Hid (finA [] (fun l => validT (oneT l)) L (endR (attrsR fmtL L)) = (T, n, k))) :
    Calls Tryz.prog 13 #[.string s] w (AtsOut T n k w) := by
  have hmf : ∀ (fn : Fn) (first cap : Array Value) (w : World), (Instr.makeFunc fn first cap).run Tryz.prog w = .ok (.func fn first cap) w := fun _ _ _ _ => rfl
  obtain ⟨k0, k1, k2⟩ := three_at w atZ #[.int .i64 0] #[.int .i64 0] 35 3 26
  have hb0 := (three_blk w (.cells atZ 35) (.cells #[.int .i64 0] 3) (.cells #[.int .i64 0] 26)).2
  have K0 := Lib.hid k0
  have K1 := Lib.hid k1
  have K2 := Lib.hid k2
  have HB0 := Lib.hid hb0
  have HTb := Lib.hid (tab_below htb.out hb0)
  have HTA : Hid (∀ W, agree 0 w.heap.size w W → Tab W) := Lib.hid fun W hW => tab_agree hW htb.out
  have hL := Lib.hid (tokL_of h.out)
  have hz : w.heap.size + 2 < (((w.alloc (.cells atZ 35)).alloc (.cells #[.int .i64 0] 3)).alloc (.cells #[.int .i64 0] 26)).heap.size := blk_lt k2
  have HZ := Lib.hid hz
  clear k0 k1 k2 hb0 hz htb
  go_enter_defers Tryz.func13, Tryz.ntmps13
  go_wp2_with fail
  refine (reader_ok s L _ hs HTb h).mono ?_
  rintro e w1 ⟨R, rfl, hR, hrd, hb⟩
  have hR0 : w.heap.size ≠ R := by have := HZ.out; omega
  have hR1 : w.heap.size + 1 ≠ R := by have := HZ.out; omega
  have hR2 : w.heap.size + 2 ≠ R := by have := HZ.out; omega
  have HRd := Lib.hid hrd
  have K0' := Lib.hid ((Pk.below (R := R) hb).blk hR0 K0.out)
  have K1' := Lib.hid ((Pk.below (R := R) hb).blk hR1 K1.out)
  have K2' := Lib.hid ((Pk.below (R := R) hb).blk hR2 K2.out)
  have HB1 := Lib.hid (below_keep hb HB0.out)
  have HRw : Hid (w.heap.size + 2 < R) := Lib.hid (by have := HZ.out; omega)
  have HRl := Lib.hid hrd.lt
  clear K0 K1 K2 HB0 hb hrd HTb h HZ hR
  go_wp2_with fail
  refine (attrs_of L hL R L ⟨#[]⟩ 0 _ w1 HRd (Lib.hid rfl)).mono ?_
  rintro e w2 ⟨hp2, hx2⟩
  have K0 := Lib.hid (hp2.blk hR0 K0'.out)
  have K1 := Lib.hid (hp2.blk hR1 K1'.out)
  have K2 := Lib.hid (hp2.blk hR2 K2'.out)
  clear K0' K1' K2'
  have HB2 : Hid (Below w.heap.size w w2) := Lib.hid (below_pk HB1.out hp2 (by have := HRw.out; omega) (by have := HRw.out; have := HRl.out; omega))
  have HRl2 : Hid (R < w2.heap.size) := Lib.hid (Nat.lt_of_lt_of_le HRl.out hp2.size)
  rcases hn2 : attrsR fmtL L with ⟨T', r⟩ | ⟨c, r⟩
  rotate_left
  · rw [hn2] at hx2
    obtain rfl := hx2
    obtain ⟨rfl, rfl, rfl⟩ := fin_er hf.out hn2
    go_wp2
    exact pt_pan w.heap.size _ _ _ _ _ _ _ _ _ _ _ _ _ _ _ _ _ _ _ _ _ _ _ w w2 K0 K1 K2 rfl HB2.out
  rw [hn2] at hx2
  obtain ⟨v, rfl, hself, hr2⟩ := hx2
  obtain ⟨bo, bc, rfl⟩ := selfP.form hself
  have HS := Lib.hid hself
  have HN := Lib.hid hn2
  have HCn : Hid (cnt (oneT T').body ≤ 60000) := Lib.hid (by show cnt [St.mk 1 [97] [] T' []] ≤ 60000; rw [cnt_cons, cnt_nil]; show 1 + cnt [] + 0 ≤ 60000; rw [cnt_nil]; decide)
  have a0 : w2.cell? ⟨w.heap.size, 0, none⟩ = some (.slice none 0 0) := by rw [blk_cell K0.out]; rfl
  have f0 : w2.frozen? ⟨w.heap.size, 0, none⟩ = false := blk_free K0.out
  have HTA2 : Hid (∀ W, agree 0 w.heap.size w2 W → Tab W) := Lib.hid fun W hW => HTA.out W fun q q1 q2 => by rw [hW q q1 q2]; exact HB2.out.block q q2
  have HC2 : Hid (∀ o k n, w2.cell? ⟨w.heap.size, o, none⟩ ≠ some (.int k n)) := Lib.hid (fun o k n hq => by rw [blk_cell K0.out] at hq; rcases o with _ | o <;> simp at hq)
  have HR3 : Hid (Rd L R (w2.setCell ⟨w.heap.size, 0, none⟩ (.slice bo T'.length bc)) r ⟨#[]⟩ 0) := Lib.hid (hr2.res (by have := HRw.out; omega) HC2.out HTA2.out (fun q hq => by rw [Below.heap_setCell _ _ _ _ hq]))
  have K03 : Hid (blk (w2.setCell ⟨w.heap.size, 0, none⟩ (.slice bo T'.length bc)) w.heap.size 35 #[.slice bo T'.length bc]) := Lib.hid (by have h := blk_set (o := 0) K0.out (.slice bo T'.length bc); simpa using h)
  have K13 := Lib.hid (blk_far (o := 0) K1.out (show w.heap.size + 1 ≠ w.heap.size by omega) (.slice bo T'.length bc))
  have K23 := Lib.hid (blk_far (o := 0) K2.out (show w.heap.size + 2 ≠ w.heap.size by omega) (.slice bo T'.length bc))
  have HZ1 : Hid (w.heap.size < w1.heap.size) := Lib.hid (by have := HRw.out; have := HRl.out; omega)
  have HS3 := Lib.hid ((Sm.refl w1.heap.size w2).store (o := 0) (Or.inl HZ1.out) (.slice bo T'.length bc))
  have HB3 := Lib.hid (bl_set (o := 0) (v := .slice bo T'.length bc) (Nat.le_refl _) HB2.out)
  have HRl3 : Hid (R < (w2.setCell ⟨w.heap.size, 0, none⟩ (.slice bo T'.length bc)).heap.size) := Lib.hid HR3.out.lt
  clear hp2 hself hn2 hr2 K0 K1 K2 HB2 HRl2 HC2 HTA2
  go_wp2_with fail
  clear a0 f0
  generalize (w2.setCell ⟨w.heap.size, 0, none⟩ (.slice bo T'.length bc)) = w3 at HR3 K03 K13 K23 HS3 HB3 HRl3 ⊢
  refine (end_of L R r ⟨#[]⟩ 0 _ w3 HR3 (Lib.hid rfl)).mono ?_
  rintro e w4 ⟨hp4, hx4⟩
  have K0 := Lib.hid (hp4.blk hR0 K03.out)
  have K1 := Lib.hid (hp4.blk hR1 K13.out)
  have K2 := Lib.hid (hp4.blk hR2 K23.out)
  have HB4 : Hid (Below w.heap.size w w4) := Lib.hid (below_pk HB3.out hp4 (by have := HRw.out; omega) (by have := HRw.out; have := HRl3.out; omega))
  have HS4 := Lib.hid (HS3.out.pk hp4 HRl.out)
  clear K03 K13 K23 HB3 HS3 HRl3
  cases hr : r.isEmpty
  · rw [hr] at hx4
    obtain rfl := hx4
    obtain ⟨rfl, rfl, rfl⟩ := fin_more hf.out HN.out hr
    go_wp2
    exact pt_pan w.heap.size _ _ _ _ _ _ _ _ _ _ _ _ _ _ _ _ _ _ _ _ _ _ _ w w4 K0 K1 K2 rfl HB4.out
  have HE := Lib.hid hr
  rw [hr] at hx4
  obtain ⟨v, rfl, rfl, -⟩ := hx4
  have HPr : Hid (Prs w4 (.slice bo T'.length bc) T') := Lib.hid (HS.out.sm HS4.out (Nat.le_refl _) (agree.self _ _ _))
  have a0 : w4.cell? ⟨w.heap.size, 0, none⟩ = some (.slice bo T'.length bc) := by rw [blk_cell K0.out]; rfl
  have f0 : w4.frozen? ⟨w.heap.size, 0, none⟩ = false := blk_free K0.out
  clear hp4 hr HR3
  go_wp2_with fail
  have hba : Below w4.heap.size w4 ((w4.alloc (.cells #[.int .i64 1, .string ⟨#[97]⟩, .slice none 0 0, .slice bo T'.length bc, .slice none 0 0] 44)).alloc (.cells #[.int .i64 1, .string ⟨#[97]⟩, .slice none 0 0, .slice bo T'.length bc, .slice none 0 0] 44)) := below_keep (al1 ..) (al1 ..)
  have hkn : blk ((w4.alloc (.cells #[.int .i64 1, .string ⟨#[97]⟩, .slice none 0 0, .slice bo T'.length bc, .slice none 0 0] 44)).alloc (.cells #[.int .i64 1, .string ⟨#[97]⟩, .slice none 0 0, .slice bo T'.length bc, .slice none 0 0] 44)) (w4.heap.size + 1) 44 #[.int .i64 1, .string ⟨#[97]⟩, .slice none 0 0, .slice bo T'.length bc, .slice none 0 0] := by have h := blk_new (w4.alloc (.cells #[.int .i64 1, .string ⟨#[97]⟩, .slice none 0 0, .slice bo T'.length bc, .slice none 0 0] 44)) #[.int .i64 1, .string ⟨#[97]⟩, .slice none 0 0, .slice bo T'.length bc, .slice none 0 0] 44; simpa using h
  have HTr : Hid (TrV ((w4.alloc (.cells #[.int .i64 1, .string ⟨#[97]⟩, .slice none 0 0, .slice bo T'.length bc, .slice none 0 0] 44)).alloc (.cells #[.int .i64 1, .string ⟨#[97]⟩, .slice none 0 0, .slice bo T'.length bc, .slice none 0 0] 44)) (.agg #[.string ⟨#[103]⟩, .bool false, .slice (some ⟨w4.heap.size + 1, 0, none⟩) 1 1]) (oneT T')) := Lib.hid (one_tr hkn (HPr.out.keep hba))
  have K05 := Lib.hid ((Pk.below (R := w4.heap.size) hba).blk (Nat.ne_of_lt (blk_lt K0.out)) K0.out)
  have K15 := Lib.hid ((Pk.below (R := w4.heap.size) hba).blk (Nat.ne_of_lt (blk_lt K1.out)) K1.out)
  have K25 := Lib.hid ((Pk.below (R := w4.heap.size) hba).blk (Nat.ne_of_lt (blk_lt K2.out)) K2.out)
  have HB5 := Lib.hid (below_keep hba HB4.out)
  have HS5 : Hid (Sm w1.heap.size w2 ((w4.alloc (.cells #[.int .i64 1, .string ⟨#[97]⟩, .slice none 0 0, .slice bo T'.length bc, .slice none 0 0] 44)).alloc (.cells #[.int .i64 1, .string ⟨#[97]⟩, .slice none 0 0, .slice bo T'.length bc, .slice none 0 0] 44))) := Lib.hid (sm_below HS4.out hba)
  clear a0 f0 hba hkn K0 K1 K2 HB4 HS4 HPr
  generalize ((w4.alloc (.cells #[.int .i64 1, .string ⟨#[97]⟩, .slice none 0 0, .slice bo T'.length bc, .slice none 0 0] 44)).alloc (.cells #[.int .i64 1, .string ⟨#[97]⟩, .slice none 0 0, .slice bo T'.length bc, .slice none 0 0] 44)) = w5 at HTr K05 K15 K25 HB5 HS5 ⊢
  by_cases hv : validT (oneT T') = 0
  case neg =>
    obtain ⟨rfl, rfl, rfl⟩ := fin_bad hf.out HN.out HE.out hv
    refine (check_no _ (oneT T') _ w5 HTr HCn.out (Lib.hid rfl) hv).mono ?_
    rintro e w6 ⟨rfl, hb6⟩
    have pk := fun g => Pk.below (R := g) hb6
    go_wp2
    exact pt_pan w.heap.size _ _ _ _ _ _ _ _ _ _ _ _ _ _ _ _ _ _ _ _ _ _ _ w w6 (Lib.hid ((pk _).blk (Nat.ne_of_lt (blk_lt K05.out)) K05.out)) (Lib.hid ((pk _).blk (Nat.ne_of_lt (blk_lt K15.out)) K15.out)) (Lib.hid ((pk _).blk (Nat.ne_of_lt (blk_lt K25.out)) K25.out)) rfl (below_keep hb6 HB5.out)
  obtain ⟨rfl, rfl, rfl⟩ := fin_good hf.out HN.out HE.out hv
  refine (check_ok _ (oneT T) w5 HTr HCn.out (Lib.hid hv)).mono ?_
  rintro e w6 ⟨rfl, hb6⟩
  have K06 := Lib.hid ((Pk.below (R := w5.heap.size) hb6).blk (Nat.ne_of_lt (blk_lt K05.out)) K05.out)
  have K16 := Lib.hid ((Pk.below (R := w5.heap.size) hb6).blk (Nat.ne_of_lt (blk_lt K15.out)) K15.out)
  have K26 := Lib.hid ((Pk.below (R := w5.heap.size) hb6).blk (Nat.ne_of_lt (blk_lt K25.out)) K25.out)
  have HB6 := Lib.hid (below_keep hb6 HB5.out)
  have HS6 : Hid (Sm w1.heap.size w2 w6) := Lib.hid (sm_below HS5.out hb6)
  clear hb6 K05 K15 K25 HB5 HS5 HTr
  have a0 : w6.cell? ⟨w.heap.size, 0, none⟩ = some (.slice bo T.length bc) := by rw [blk_cell K06.out]; rfl
  have f0 : w6.frozen? ⟨w.heap.size, 0, none⟩ = false := blk_free K06.out
  have c1 : w6.cell? ⟨w.heap.size + 1, 0, none⟩ = some (.int .i64 0) := by rw [blk_cell K16.out]; rfl
  have c2 : w6.cell? ⟨w.heap.size + 1 + 1, 0, none⟩ = some (.int .i64 0) := by rw [blk_cell (g := w.heap.size + 2) K26.out]; rfl
  have g1 : w6.frozen? ⟨w.heap.size + 1, 0, none⟩ = false := blk_free K16.out
  have g2 : w6.frozen? ⟨w.heap.size + 1 + 1, 0, none⟩ = false := blk_free (g := w.heap.size + 2) K26.out
  go_wp2
  have K07 : Hid (blk (((w6.setCell ⟨w.heap.size, 0, none⟩ (.slice bo T.length bc)).setCell ⟨w.heap.size + 1, 0, none⟩ (.int .i64 0)).setCell ⟨w.heap.size + 1 + 1, 0, none⟩ (.int .i64 0)) w.heap.size 35 #[.slice bo T.length bc]) := Lib.hid (by have h := (blk_far (o := 0) (blk_far (o := 0) (blk_set (o := 0) K06.out (.slice bo T.length bc)) (show w.heap.size ≠ w.heap.size + 1 by omega) (.int .i64 0)) (show w.heap.size ≠ w.heap.size + 1 + 1 by omega) (.int .i64 0)); simpa using h)
  have K17 : Hid (blk (((w6.setCell ⟨w.heap.size, 0, none⟩ (.slice bo T.length bc)).setCell ⟨w.heap.size + 1, 0, none⟩ (.int .i64 0)).setCell ⟨w.heap.size + 1 + 1, 0, none⟩ (.int .i64 0)) (w.heap.size + 1) 3 #[.int .i64 0]) := Lib.hid (by have h := (blk_far (o := 0) (blk_set (o := 0) (blk_far (o := 0) K16.out (show w.heap.size + 1 ≠ w.heap.size by omega) (.slice bo T.length bc)) (.int .i64 0)) (show w.heap.size + 1 ≠ w.heap.size + 1 + 1 by omega) (.int .i64 0)); simpa using h)
  have K27 : Hid (blk (((w6.setCell ⟨w.heap.size, 0, none⟩ (.slice bo T.length bc)).setCell ⟨w.heap.size + 1, 0, none⟩ (.int .i64 0)).setCell ⟨w.heap.size + 1 + 1, 0, none⟩ (.int .i64 0)) (w.heap.size + 2) 26 #[.int .i64 0]) := Lib.hid (by have h := (blk_set (o := 0) (blk_far (o := 0) (blk_far (o := 0) K26.out (show w.heap.size + 2 ≠ w.heap.size by omega) (.slice bo T.length bc)) (show w.heap.size + 2 ≠ w.heap.size + 1 by omega) (.int .i64 0)) (.int .i64 0)); simpa using h)
  have HB7 := Lib.hid (bl_set (n := w.heap.size) (g := w.heap.size + 1 + 1) (o := 0) (v := .int .i64 0) (by omega) (bl_set (n := w.heap.size) (g := w.heap.size + 1) (o := 0) (v := .int .i64 0) (by omega) (bl_set (o := 0) (v := .slice bo T.length bc) (Nat.le_refl _) HB6.out)))
  have HS7 := Lib.hid (((HS6.out.store (o := 0) (Or.inl HZ1.out) (.slice bo T.length bc)).store (g := w.heap.size + 1) (o := 0) (Or.inl (by have := HRw.out; have := HRl.out; omega)) (.int .i64 0)).store (g := w.heap.size + 1 + 1) (o := 0) (Or.inl (by have := HRw.out; have := HRl.out; omega)) (.int .i64 0))
  exact pt_ret w.heap.size _ _ _ _ _ _ _ _ _ _ _ _ _ _ _ _ _ _ T bo bc w _ K07 K17 K27 (Lib.hid (HS.out.sm HS7.out (Nat.le_refl _) (agree.self _ _ _))) rfl HB7.out
theorem ats_of (s : ByteArray) (l : List Pr) (n e : Int) (w : World) (hs : s.size ≤ maxLen) (htb : Hid (Tab w)) (h : Hid (atsE s.data.toList = (l, n, e))) : Calls Tryz.prog 13 #[.string s] w (AtsOut l n e w) := by
  have hh := h.out
  unfold atsE atsA at hh
  rcases ht : tokE s.data.toList with ⟨L, l0, k0⟩
  rw [ht] at hh
  simp only at hh
  by_cases hk : k0 = 0
  · rw [if_neg (fun q => q hk)] at hh
    obtain rfl : l0 = 0 := tok_line ht hk
    subst hk
    exact ats_go s L l n e w hs htb (Lib.hid ht) (Lib.hid hh)
  · rw [if_pos hk] at hh
    cases hh
    exact ats_tok s L n e w hs (Lib.hid ht) hk
end Go.Proofs.YtgccheiemnpaoaaGreatDoor.par
namespace Go.Proofs.YtgccheiemnpaoaaGreatDoor.par
open Go.RowKit lex tre prt

theorem parOk : ParOk := ⟨parse_of, ats_of⟩
end Go.Proofs.YtgccheiemnpaoaaGreatDoor.par
