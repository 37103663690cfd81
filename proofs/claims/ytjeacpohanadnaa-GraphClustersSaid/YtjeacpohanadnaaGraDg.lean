/-
  A digraph's box and a graph's box across rows and stores; what Skeleton of the landed graph returns. Conditions: a graph in memory of at most 300 edges.
-/
import Derived.Test.YtjeacpohanadnaaGraRow
namespace Go.Proofs.Ytjeacpohanadnaa.gra
open Go.RowKit lex

def dgb (W : World) (b : Nat) (n : Int) (v : Value) : Prop := W.cell? ⟨b, 0, none⟩ = some (.int .i64 n) ∧ W.cell? ⟨b, 1, none⟩ = some v ∧ W.frozen? ⟨b, 0, none⟩ = false ∧ W.frozen? ⟨b, 1, none⟩ = false
theorem dgb_new (w : World) (n : Int) (ao : Option Addr) (k c : Nat) (t : TypeId) : dgb (w.alloc (.cells #[.int .i64 n, .slice ao k c] t)) w.heap.size n (.slice ao k c) := by
  refine ⟨?_, ?_, ?_, ?_⟩ <;> go_simp
theorem dgb_below {B : Nat} {w w' : World} {b : Nat} {n : Int} {v : Value} (h : Below B w w') (hb : b < B) (hd : dgb w b n v) : dgb w' b n v := by
  obtain ⟨h0, h1, h2, h3⟩ := hd
  exact ⟨by rw [h.cell (p := ⟨b, 0, none⟩) hb]; exact h0, by rw [h.cell (p := ⟨b, 1, none⟩) hb]; exact h1, by rw [h.frozen (p := ⟨b, 0, none⟩) hb]; exact h2, by rw [h.frozen (p := ⟨b, 1, none⟩) hb]; exact h3⟩
theorem dgb_set1 {w : World} {b : Nat} {n : Int} {v : Value} (ao : Option Addr) (k c : Nat) (h : dgb w b n v) : dgb (w.setCell ⟨b, 1, none⟩ (.slice ao k c)) b n (.slice ao k c) := by
  obtain ⟨h0, h1, h2, h3⟩ := h
  refine ⟨?_, ?_, ?_, ?_⟩ <;> go_simp
theorem dgb_far {w : World} {b d o : Nat} {n : Int} {v u : Value} (hb : b ≠ d) (h : dgb w b n v) : dgb (w.setCell ⟨d, o, none⟩ u) b n v := by
  obtain ⟨h0, h1, h2, h3⟩ := h
  refine ⟨?_, ?_, ?_, ?_⟩ <;> go_simp
theorem gat_below {B : Nat} {w w' : World} {b : Nat} {x : ByteArray} {d : Bool} {nv ev cv : Value} (h : Below B w w') (hb : b < B) (hd : gat w b x d nv ev cv) : gat w' b x d nv ev cv := by
  obtain ⟨h0, h1, h2, h3, h4⟩ := hd
  exact ⟨by rw [h.cell (p := ⟨b, 0, none⟩) hb]; exact h0, by rw [h.cell (p := ⟨b, 1, none⟩) hb]; exact h1, by rw [h.cell (p := ⟨b, 2, none⟩) hb]; exact h2, by rw [h.cell (p := ⟨b, 3, none⟩) hb]; exact h3, by rw [h.cell (p := ⟨b, 4, none⟩) hb]; exact h4⟩
theorem gat_far {w : World} {b e o : Nat} {x : ByteArray} {d : Bool} {nv ev cv u : Value} (hb : b ≠ e) (h : gat w b x d nv ev cv) : gat (w.setCell ⟨e, o, none⟩ u) b x d nv ev cv := by
  obtain ⟨h0, h1, h2, h3, h4⟩ := h
  refine ⟨?_, ?_, ?_, ?_, ?_⟩ <;> go_simp
theorem gat_alloc {w : World} {b : Nat} {x : ByteArray} {d : Bool} {nv ev cv : Value} (o : Obj) (h : gat w b x d nv ev cv) : gat (w.alloc o) b x d nv ev cv := gat_keep h (al1 ..)
theorem dgb_alloc {w : World} {b : Nat} {n : Int} {v : Value} (o : Obj) (h : dgb w b n v) : dgb (w.alloc o) b n v := dgb_below (al1 ..) (World.block_lt_of_cell? w _ h.1) h
def arcsL (g : Gr) : List Ar := g.es.map fun e => (e.fr, e.to)
theorem arcs_take (g : Gr) {k : Nat} (h : k < g.es.length) : (arcsL g).take (k + 1) = (arcsL g).take k ++ [(g.es[k].fr, g.es[k].to)] := by
  unfold arcsL
  rw [List.take_succ_eq_append_getElem (by rw [List.length_map]; exact h), List.getElem_map]
/-- A digraph that a call leaves. -/
def DgOut (n : Int) (L : List Ar) (w : World) (e : Ending) (w' : World) : Prop := ∃ v, e = .returned v ∧ DgV w' v n L ∧ Below w.heap.size w w'
set_option maxRecDepth 100000 in
set_option maxHeartbeats 8000000 in
theorem cSkeleton_of (v : Value) (g : Gr) (w : World) (h : Hid (GrV w v g)) (hl : g.es.length ≤ 300) :
    Calls Try.prog 14 #[v] w (DgOut (g.ns.length : Int) (arcsL g) w) := by
  obtain ⟨nv, ev, cv, rfl, hnl, hns, hes, hcs⟩ := h.out
  obtain ⟨no, nc, rfl, hm0, hm1, -⟩ := id hns
  obtain ⟨eo, ec, rfl, -, hm2, -⟩ := id hes
  obtain ⟨co, cc, rfl, -, hm3, -⟩ := id hcs
  unfold maxLen at hm1
  have hnm : g.ns.length ≤ 9223372036854775807 := by omega
  obtain ⟨n, hn⟩ : ∃ n : Nat, g.ns.length = n := ⟨_, rfl⟩
  rw [hn] at hnm
  have HES := Lib.hid hes
  simp only [hn]
  obtain ⟨W1, hW1⟩ : ∃ W1, w.alloc (.cells #[.string (bb g.nm), .bool g.dir, .slice no n nc, .slice eo g.es.length ec, .slice co g.cs.length cc] 26) = W1 := ⟨_, rfl⟩
  obtain ⟨W2, hW2⟩ : ∃ W2, W1.alloc (.cells #[.int .i64 0, .slice none 0 0] 35) = W2 := ⟨_, rfl⟩
  obtain ⟨W3, hW3⟩ : ∃ W3, W2.alloc (.cells #[.int .i64 n, .slice none 0 0] 35) = W3 := ⟨_, rfl⟩
  have s1 : W1.heap.size = w.heap.size + 1 := by rw [← hW1]; simp
  have s2 : W2.heap.size = w.heap.size + 1 + 1 := by rw [← hW2, ← s1]; simp
  have s3 : W3.heap.size = w.heap.size + 1 + 1 + 1 := by rw [← hW3, ← s2]; simp
  have HG : Hid (gat W3 w.heap.size (bb g.nm) g.dir (.slice no n nc) (.slice eo g.es.length ec) (.slice co g.cs.length cc)) := Lib.hid (by rw [← hW3, ← hW2, ← hW1]; exact gat_alloc _ (gat_alloc _ (gat_new ..)))
  have HD0 : Hid (dgb W3 (w.heap.size + 1) 0 (.slice none 0 0)) := Lib.hid (by rw [← hW3, ← s1, ← hW2]; exact dgb_alloc _ (dgb_new ..))
  have HD1 : Hid (dgb W3 (w.heap.size + 1 + 1) n (.slice none 0 0)) := Lib.hid (by rw [← hW3, ← s2]; exact dgb_new ..)
  have HB : Hid (Below w.heap.size w W3) := Lib.hid (by rw [← hW3, ← hW2, ← hW1]; exact al3 ..)
  have HS := Lib.hid s3
  have HW1 := Lib.hid hW1
  have HW2 := Lib.hid hW2
  have HW3 := Lib.hid hW3
  clear hns hes hcs hm0 hm1 hm2 hm3 hnl h s1 s2 s3 hW1 hW2 hW3
  go_enter Try.func14, Try.ntmps14
  go_wp2_with fail
  rw [HW1.out, HW2.out, HW3.out]
  clear HW1 HW2 HW3
  go_loopw [13] (fun iv wr => ∃ (k : Nat) (ao : Option Addr) (cap : Nat) (C : List Ar), iv = .int .i64 k ∧ k ≤ g.es.length ∧ (arcsL g).take k = C ∧ C.length = k ∧ Arow wr (w.heap.size + 1 + 1 + 1) (.slice ao k cap) C ∧ gat wr w.heap.size (bb g.nm) g.dir (.slice no n nc) (.slice eo g.es.length ec) (.slice co g.cs.length cc) ∧ dgb wr (w.heap.size + 1) 0 (.slice none 0 0) ∧ dgb wr (w.heap.size + 1 + 1) n (.slice ao k cap) ∧ Below w.heap.size w wr ∧ w.heap.size + 1 + 1 + 1 ≤ wr.heap.size) (fun iv _ => g.es.length - (intOf iv).toNat)
  case atStart => exact ⟨0, none, 0, [], rfl, Nat.zero_le _, rfl, rfl, own_nil _ _ _ _, HG.out, HD0.out, HD1.out, HB.out, by rw [HS.out]; exact Nat.le_refl _⟩
  case round =>
    obtain ⟨k, ao, cap, C, rfl, hk, hC, hCl, hrow, hgat, hd0, hd1, hB, hsz⟩ := hrel
    rename World => wr
    have HROW := Lib.hid hrow
    have HC := Lib.hid hC
    have HGAT := Lib.hid hgat
    have HD0 := Lib.hid hd0
    have HD1 := Lib.hid hd1
    have HB := Lib.hid hB
    clear hrow hC hgat hd0 hB HG
    by_cases hlt : k < g.es.length
    · obtain ⟨A, rfl, q0, q1, q2, q3, q4, q5, q6, -⟩ := (HES.out.keep HB.out).get hlt
      have hat := arcs_take g hlt
      obtain ⟨x, hx⟩ : ∃ x, g.es[k] = x := ⟨_, rfl⟩
      rw [hx] at q0 q1 q2 q3 q4 q5 q6 hat
      obtain ⟨x0, x1, x2, x3, x4, x5, x6⟩ := x
      simp only at q0 q1 q2 q3 q4 q5 q6 hat
      rw [HC.out] at hat
      have HAT := Lib.hid hat
      have i0 : (0 : Int) ≤ (k : Int) := by omega
      have i1 : (k : Int) < (g.es.length : Int) := by omega
      obtain ⟨d0, d1, d2, d3⟩ := hd1
      have HR2 : Hid (Arow (wr.alloc (.cells #[.int .i64 x0, .int .i64 x1, .int .i64 x2, .int .i64 x3, .string (bb x4), .int .i64 x5, .int .i64 x6] 56)) (w.heap.size + 1 + 1 + 1) (.slice ao k cap) C) := Lib.hid (own_keep HROW.out (al1 ..))
      rw [← hCl] at HR2
      have hl2 : w.heap.size + 1 + 1 < wr.heap.size := by omega
      clear hat hx
      go_wp2_with (at_builtin; refine app_ar rfl (.tmp 18) (.tmp 24) rfl (w.heap.size + 1 + 1 + 1) _ C x0 x1 (wr.heap.size + 1) (by simp) (by rw [hCl]; rfl) rfl HR2 (by omega) (by simp; omega) ?_; intro ao4 cap4 w4 hrow4 hgrow4; have hb4 := ((Below.refl (w.heap.size + 1 + 1 + 1) wr).alloc hsz (.cells #[.int .i64 x0, .int .i64 x1, .int .i64 x2, .int .i64 x3, .string (bb x4), .int .i64 x5, .int .i64 x6] 56)).grown hgrow4 (by simp; omega) (fun q hq => (World.ownsRow.lt HR2.out q hq).1); have g4 := dgb_below hb4 (by omega) HD1.out; have HD04 := Lib.hid (dgb_below hb4 (by omega) HD0.out); have HD14 := Lib.hid g4; have HG4 := Lib.hid (gat_below hb4 (by omega) HGAT.out); have HB4 := Lib.hid (HB.out.trans (hb4.mono (by omega))); have HS4 := Lib.hid (Nat.le_trans hsz hb4.size); have HROW4 := Lib.hid hrow4; obtain ⟨e0, e1, e2, e3⟩ := g4; clear hgrow4 hb4 hrow4)
      rw [hCl] at HROW4
      go_roundw
      case rel => exact ⟨k + 1, ao4, cap4, _, by go_num, by omega, HAT.out, by simp [hCl], ownsRow_setCell_below HROW4.out (by simp) _, gat_far (by omega) HG4.out, dgb_far (by omega) HD04.out, dgb_set1 _ _ _ HD14.out, HB4.out.setCell (by simp; omega) _, by simpa using HS4.out⟩
      case measure => simp [intOf]; omega
    · obtain rfl : k = g.es.length := by omega
      have HC2 : Hid (C = arcsL g) := Lib.hid (by rw [← HC.out, List.take_of_length_le (by simp [arcsL])])
      obtain ⟨d0, d1, d2, d3⟩ := hd1
      obtain ⟨e0, e1, e2, e3⟩ := HD0.out
      go_wp2
      have r0 : (wr.setCell ⟨w.heap.size + 1, 0, none⟩ (.int .i64 n)).cell? ⟨w.heap.size + 1, 0, none⟩ = some (.int .i64 n) := by go_simp
      have r1 : ((wr.setCell ⟨w.heap.size + 1, 0, none⟩ (.int .i64 n)).setCell ⟨w.heap.size + 1, 1, none⟩ (.slice ao g.es.length cap)).cell? ⟨w.heap.size + 1, 1, none⟩ = some (.slice ao g.es.length cap) := by go_simp
      refine bodyPost_ret (v := .agg #[.int .i64 n, .slice ao g.es.length cap]) (by simp [results, Try.results14, go_sem, r0, r1]) rfl ?_
      refine ⟨_, rfl, ⟨_, rfl, ?_⟩, (HB.out.setCell (by simp) _).setCell (by simp) _⟩
      have HROW2 := HROW.out
      rw [← hCl] at HROW2
      rw [← HC2.out, ← hCl]
      exact Arow.ars (ownsRow_setCell_below (ownsRow_setCell_below HROW2 (by simp) _) (by simp) _)
end Go.Proofs.Ytjeacpohanadnaa.gra
