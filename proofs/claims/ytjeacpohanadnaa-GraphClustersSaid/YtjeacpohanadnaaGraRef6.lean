/-
  What edge of the reference of layer 11 returns. Condition: a graph in memory.
-/
import Derived.Test.YtjeacpohanadnaaGraRef4
namespace Go.Proofs.Ytjeacpohanadnaa.gra
open Go.RowKit lex

def edV (x : Ed) : Value := .agg #[.int .i64 x.fr, .int .i64 x.to, .int .i64 x.fp, .int .i64 x.tp, .string (bb x.lb), .int .i64 x.wt, .int .i64 x.ln]
/-- An edge's last cells. -/
def xat (w : World) (b : Nat) (p q : Int) (z : ByteArray) (r s : Int) : Prop := w.cell? ⟨b, 2, none⟩ = some (.int .i64 p) ∧ w.cell? ⟨b, 3, none⟩ = some (.int .i64 q) ∧ w.cell? ⟨b, 4, none⟩ = some (.string z) ∧ w.cell? ⟨b, 5, none⟩ = some (.int .i64 r) ∧ w.cell? ⟨b, 6, none⟩ = some (.int .i64 s)
theorem xat_new (w : World) (m n p q : Int) (z : ByteArray) (r s : Int) (t : TypeId) : xat (w.alloc (.cells #[.int .i64 m, .int .i64 n, .int .i64 p, .int .i64 q, .string z, .int .i64 r, .int .i64 s] t)) w.heap.size p q z r s := by
  refine ⟨?_, ?_, ?_, ?_, ?_⟩ <;> go_simp
theorem xat_keep {w1 w2 : World} {b : Nat} {p q : Int} {z : ByteArray} {r s : Int} (h : xat w1 b p q z r s) (h2 : Below w1.heap.size w1 w2) : xat w2 b p q z r s :=
  ⟨cell_keep h2 h.1, cell_keep h2 h.2.1, cell_keep h2 h.2.2.1, cell_keep h2 h.2.2.2.1, cell_keep h2 h.2.2.2.2⟩
set_option maxRecDepth 100000 in
set_option maxHeartbeats 16000000 in
theorem gedge_of (v : Value) (g : Gr) (fr tw fp tp : Int) (Z : ByteArray) (wt ln R : Int) (w : World) (h : Hid (GrV w v g)) (hZs : Z.size ≤ maxLen) (hr : Hid (edgeE g ⟨fr, tw, fp, tp, Z.data.toList, wt, ln⟩ = R)) :
    Calls Try.prog 34 #[v, .agg #[.int .i64 fr, .int .i64 tw, .int .i64 fp, .int .i64 tp, .string Z, .int .i64 wt, .int .i64 ln]] w fun e w' => e = .returned (.int .i64 R) ∧ Below w.heap.size w w' := by
  obtain ⟨nv, ev, cv, rfl, hnl, hns, he, hc⟩ := h.out
  obtain ⟨ao, cap, rfl, hc', hm, _⟩ := id hns
  unfold maxLen at hm
  have hlm : g.ns.length ≤ 9223372036854775807 := by omega
  have hfe := hr.out
  unfold edgeE at hfe
  simp only [size_list] at hfe
  clear he hnl hc' hm hc h hr
  have HG0 := gat_keep (gat_new w (bb g.nm) g.dir (.slice ao g.ns.length cap) ev cv 26) (al1 _ (.cells #[.int .i64 fr, .int .i64 tw, .int .i64 fp, .int .i64 tp, .string Z, .int .i64 wt, .int .i64 ln] 56))
  have HX0 := xat_new (w.alloc (.cells #[.string (bb g.nm), .bool g.dir, .slice ao g.ns.length cap, ev, cv] 26)) fr tw fp tp Z wt ln 56
  have HB0 := below_keep (al1 (w.alloc (.cells #[.string (bb g.nm), .bool g.dir, .slice ao g.ns.length cap, ev, cv] 26)) (.cells #[.int .i64 fr, .int .i64 tw, .int .i64 fp, .int .i64 tp, .string Z, .int .i64 wt, .int .i64 ln] 56)) (al1 w _)
  rw [show (w.alloc (.cells #[.string (bb g.nm), .bool g.dir, .slice ao g.ns.length cap, ev, cv] 26)).heap.size = w.heap.size + 1 by simp] at HX0
  have HN := Lib.hid (hns.keep HB0)
  have HG := Lib.hid HG0
  have HX := Lib.hid HX0
  have HB := Lib.hid HB0
  clear HG0 HX0 HB0 hns
  by_cases a0 : fr < 0
  · rw [if_pos (Or.inl a0)] at hfe
    subst hfe
    go_enter Try.func34, Try.ntmps34
    go_wp2
    go_ret
    exact ⟨rfl, HB.out⟩
  by_cases a1 : (g.ns.length : Int) ≤ fr
  · rw [if_pos (Or.inr (Or.inl a1))] at hfe
    subst hfe
    go_enter Try.func34, Try.ntmps34
    go_wp2
    go_ret
    exact ⟨rfl, HB.out⟩
  by_cases a2 : tw < 0
  · rw [if_pos (Or.inr (Or.inr (Or.inl a2)))] at hfe
    subst hfe
    go_enter Try.func34, Try.ntmps34
    go_wp2
    go_ret
    exact ⟨rfl, HB.out⟩
  by_cases a3 : (g.ns.length : Int) ≤ tw
  · rw [if_pos (Or.inr (Or.inr (Or.inr a3)))] at hfe
    subst hfe
    go_enter Try.func34, Try.ntmps34
    go_wp2
    go_ret
    exact ⟨rfl, HB.out⟩
  rw [if_neg (by omega)] at hfe
  obtain ⟨f, rfl⟩ : ∃ f : Nat, fr = (f : Int) := ⟨fr.toNat, by omega⟩
  obtain ⟨t, rfl⟩ : ∃ t : Nat, tw = (t : Int) := ⟨tw.toNat, by omega⟩
  have hf : f < g.ns.length := by omega
  have ht : t < g.ns.length := by omega
  simp only [Int.toNat_natCast, List.getElem?_eq_getElem hf, List.getElem?_eq_getElem ht] at hfe
  obtain ⟨A, rfl, -, -, -, -, -, ⟨pv, q5, hps⟩, -⟩ := HN.out.get hf
  obtain ⟨A2, e2, -, -, -, -, -, ⟨pv2, s5, hps2⟩, -⟩ := HN.out.get ht
  cases e2
  obtain ⟨po, pc, rfl, -, -, -⟩ := id hps
  obtain ⟨po2, pc2, rfl, -, -, -⟩ := id hps2
  obtain ⟨L1, hL1⟩ : ∃ L, g.ns[f].ps.length = L := ⟨_, rfl⟩
  obtain ⟨L2, hL2⟩ : ∃ L, g.ns[t].ps.length = L := ⟨_, rfl⟩
  rw [hL1] at q5 hfe
  rw [hL2] at s5 hfe
  have f0 : (0 : Int) ≤ (f : Int) := by omega
  have f1 : (f : Int) < (g.ns.length : Int) := by omega
  have t0 : (0 : Int) ≤ (t : Int) := by omega
  have t1 : (t : Int) < (g.ns.length : Int) := by omega
  clear hL1 hL2 hps hps2 HN
  go_enter Try.func34, Try.ntmps34
  go_wp2_with fail
  by_cases b0 : fp < -1
  · rw [if_pos (Or.inl b0)] at hfe
    subst hfe
    go_quiet (fail)
    have HB3 := Lib.hid (below_keep (drew_n _ nq) HB.out)
    generalize World.drewN _ nq = w3 at HB3 ⊢
    go_wp2
    go_ret
    exact ⟨rfl, HB3.out⟩
  by_cases b1 : (L1 : Int) ≤ fp
  · rw [if_pos (Or.inr (Or.inl b1))] at hfe
    subst hfe
    go_quiet (fail)
    have HB3 := Lib.hid (below_keep (drew_n _ nq) HB.out)
    generalize World.drewN _ nq = w3 at HB3 ⊢
    go_wp2
    go_ret
    exact ⟨rfl, HB3.out⟩
  by_cases b2 : tp < -1
  · rw [if_pos (Or.inr (Or.inr (Or.inl b2)))] at hfe
    subst hfe
    go_quiet (fail)
    have HB3 := Lib.hid (below_keep (drew_n _ nq) HB.out)
    generalize World.drewN _ nq = w3 at HB3 ⊢
    go_wp2
    go_ret
    exact ⟨rfl, HB3.out⟩
  by_cases b3 : (L2 : Int) ≤ tp
  · rw [if_pos (Or.inr (Or.inr (Or.inr b3)))] at hfe
    subst hfe
    go_quiet (fail)
    have HB3 := Lib.hid (below_keep (drew_n _ nq) HB.out)
    generalize World.drewN _ nq = w3 at HB3 ⊢
    go_wp2
    go_ret
    exact ⟨rfl, HB3.out⟩
  rw [if_neg (by omega)] at hfe
  go_quiet (fail)
  have HB3 := Lib.hid (below_keep (drew_n _ nq) HB.out)
  have HX3 := Lib.hid (xat_keep HX.out (drew_n _ nq))
  generalize World.drewN _ nq = w3 at HB3 HX3 ⊢
  obtain ⟨-, -, x4, x5, x6⟩ := HX3.out
  by_cases l0 : 32 < Z.size
  · rw [if_pos l0] at hfe
    subst hfe
    have l1 : (32 : Int) < (Z.size : Int) := by omega
    clear l0
    go_wp2
    go_ret
    exact ⟨rfl, HB3.out⟩
  rw [if_neg l0] at hfe
  have l1 : ¬ (32 : Int) < (Z.size : Int) := by omega
  clear l0
  obtain ⟨pb, hpb⟩ : ∃ b, plainB Z.data.toList = b := ⟨_, rfl⟩
  have HPB := Lib.hid hpb
  rw [hpb] at hfe
  clear hpb
  go_wp2_with fail
  refine (gplain_of _ _ _ hZs HPB).mono ?_
  rintro e w5 ⟨rfl, rfl⟩
  cases pb
  · rw [if_pos (Or.inl rfl)] at hfe
    subst hfe
    go_wp2
    go_ret
    exact ⟨rfl, HB3.out⟩
  by_cases r0 : wt < 1
  · rw [if_pos (Or.inr (Or.inl r0))] at hfe
    subst hfe
    go_wp2
    go_ret
    exact ⟨rfl, HB3.out⟩
  by_cases r1 : 1000 < wt
  · rw [if_pos (Or.inr (Or.inr (Or.inl r1)))] at hfe
    subst hfe
    go_wp2
    go_ret
    exact ⟨rfl, HB3.out⟩
  by_cases r2 : ln < 1
  · rw [if_pos (Or.inr (Or.inr (Or.inr (Or.inl r2))))] at hfe
    subst hfe
    go_wp2
    go_ret
    exact ⟨rfl, HB3.out⟩
  by_cases r3 : 64 < ln
  · rw [if_pos (Or.inr (Or.inr (Or.inr (Or.inr r3))))] at hfe
    subst hfe
    go_wp2
    go_ret
    exact ⟨rfl, HB3.out⟩
  rw [if_neg (by simp; omega)] at hfe
  subst hfe
  go_wp2
  go_ret
  exact ⟨rfl, HB3.out⟩
end Go.Proofs.Ytjeacpohanadnaa.gra
