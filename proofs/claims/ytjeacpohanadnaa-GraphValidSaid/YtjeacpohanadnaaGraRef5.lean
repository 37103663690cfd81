/-
  What node of the reference of layer 11 returns. Condition: a graph in memory.
-/
import Derived.Test.YtjeacpohanadnaaGraRef4
namespace Go.Proofs.Ytjeacpohanadnaa.gra
open Go.RowKit lex

/-- A node's six cells. -/
def nat6 (w : World) (b : Nat) (x y : ByteArray) (p q r : Int) (pv : Value) : Prop := w.cell? ⟨b, 0, none⟩ = some (.string x) ∧ w.cell? ⟨b, 1, none⟩ = some (.string y) ∧ w.cell? ⟨b, 2, none⟩ = some (.int .i64 p) ∧ w.cell? ⟨b, 3, none⟩ = some (.int .i64 q) ∧ w.cell? ⟨b, 4, none⟩ = some (.int .i64 r) ∧ w.cell? ⟨b, 5, none⟩ = some pv
theorem nat6_new (w : World) (x y : ByteArray) (p q r : Int) (pv : Value) (t : TypeId) : nat6 (w.alloc (.cells #[.string x, .string y, .int .i64 p, .int .i64 q, .int .i64 r, pv] t)) w.heap.size x y p q r pv := by
  refine ⟨?_, ?_, ?_, ?_, ?_, ?_⟩ <;> go_simp
theorem nat6_keep {w1 w2 : World} {b : Nat} {x y : ByteArray} {p q r : Int} {pv : Value} (h : nat6 w1 b x y p q r pv) (h2 : Below w1.heap.size w1 w2) : nat6 w2 b x y p q r pv :=
  ⟨cell_keep h2 h.1, cell_keep h2 h.2.1, cell_keep h2 h.2.2.1, cell_keep h2 h.2.2.2.1, cell_keep h2 h.2.2.2.2.1, cell_keep h2 h.2.2.2.2.2⟩
set_option maxRecDepth 100000 in
set_option maxHeartbeats 16000000 in
theorem gnode_of (v : Value) (g : Gr) (i : Nat) (R : Int) (w : World) (h : Hid (GrV w v g)) (hi : i < g.ns.length) (hr : Hid (nodeE g (g.ns.take i) g.ns[i] = R)) :
    Calls Try.prog 32 #[v, .int .i64 i] w fun e w' => e = .returned (.int .i64 R) ∧ Below w.heap.size w w' := by
  have hg := h.out
  obtain ⟨nv, ev, cv, rfl, hnl, hns, he, hc⟩ := h.out
  have hB := al1 w (.cells #[.string (bb g.nm), .bool g.dir, nv, ev, cv] 26)
  have HN := Lib.hid (hns.keep hB)
  obtain ⟨ao, cap, rfl, hc', hm, _⟩ := id HN.out
  obtain ⟨co, cc, rfl, -, -, -⟩ := hc
  unfold maxLen at hm
  have hlm : g.ns.length ≤ 9223372036854775807 := by omega
  clear hns he hnl hc' hm
  have hget := HN.out.get hi
  obtain ⟨x, hx⟩ : ∃ x, g.ns[i] = x := ⟨_, rfl⟩
  have hxi : g.ns[i]? = some x := by rw [List.getElem?_eq_getElem hi, hx]
  rw [hx] at hget hr
  obtain ⟨A, rfl, q0, q1, q2, q3, q4, ⟨pv, q5, hps⟩, z0, z1, -⟩ := hget
  obtain ⟨xn, xl, xw, xh, xc, xp⟩ := x
  simp only at q0 q1 q2 q3 q4 hps z0 z1
  obtain ⟨po, pc, rfl, -, -, -⟩ := id hps
  obtain ⟨Y, hY⟩ : ∃ Y, bb xn = Y := ⟨_, rfl⟩
  obtain ⟨Z, hZ⟩ : ∃ Z, bb xl = Z := ⟨_, rfl⟩
  rw [hY] at q0
  rw [hZ] at q1
  have hY2 : Y.data.toList = xn := by rw [← hY]
  have hZ2 : Z.data.toList = xl := by rw [← hZ]
  have hYs : Y.size ≤ maxLen := by rw [← size_list, hY2]; exact z0
  have hZs : Z.size ≤ maxLen := by rw [← size_list, hZ2]; exact z1
  have HZ2 := Lib.hid hZ2
  have hZl : xl.length = Z.size := by rw [← hZ2, size_list]
  have i0 : (0 : Int) ≤ (i : Int) := by omega
  have i1 : (i : Int) < (g.ns.length : Int) := by omega
  obtain ⟨nm, hnm⟩ : ∃ b, isNm xn = b := ⟨_, rfl⟩
  have HNM : Hid (isNm Y.data.toList = nm) := Lib.hid (by rw [hY2]; exact hnm)
  have hfe := hr.out
  unfold nodeE at hfe
  simp only at hfe
  rw [hnm] at hfe
  obtain ⟨gv, hgv⟩ : ∃ gv : Value, Value.slice (some A) g.ns.length cap = gv := ⟨_, rfl⟩
  have HG0 := gat_keep (gat_new w (bb g.nm) g.dir gv ev (.slice co g.cs.length cc) 26) (al1 _ (.cells #[.string Y, .string Z, .int .i64 xw, .int .i64 xh, .int .i64 xc, .slice po xp.length pc] 48))
  have HK0 := nat6_new (w.alloc (.cells #[.string (bb g.nm), .bool g.dir, gv, ev, .slice co g.cs.length cc] 26)) Y Z xw xh xc (.slice po xp.length pc) 48
  have HB0 := below_keep (al1 (w.alloc (.cells #[.string (bb g.nm), .bool g.dir, gv, ev, .slice co g.cs.length cc] 26)) (.cells #[.string Y, .string Z, .int .i64 xw, .int .i64 xh, .int .i64 xc, .slice po xp.length pc] 48)) (al1 w _)
  have HP0 := hps.keep (by rw [hgv]; exact al1 (w.alloc (.cells #[.string (bb g.nm), .bool g.dir, gv, ev, .slice co g.cs.length cc] 26)) (.cells #[.string Y, .string Z, .int .i64 xw, .int .i64 xh, .int .i64 xc, .slice po xp.length pc] 48))
  rw [show (w.alloc (.cells #[.string (bb g.nm), .bool g.dir, gv, ev, .slice co g.cs.length cc] 26)).heap.size = w.heap.size + 1 by simp] at HK0
  subst hgv
  have HG := Lib.hid HG0
  have HK := Lib.hid HK0
  have HB := Lib.hid HB0
  have HP := Lib.hid HP0
  clear hY hZ hr HG0 HK0 HB0 HP0 hps hB hZ2
  cases nm
  · rw [if_pos rfl] at hfe
    subst hfe
    clear hnm hY2
    go_enter Try.func32, Try.ntmps32
    go_wp2_with fail
    refine (rname_of _ _ _ hYs HNM).mono ?_
    rintro e w1 ⟨rfl, rfl⟩
    go_wp2
    go_ret
    exact ⟨rfl, HB.out⟩
  rw [if_neg (by decide)] at hfe
  obtain ⟨F, hF⟩ : ∃ F, findV g Y.data.toList = F := ⟨_, rfl⟩
  have HFI := Lib.hid hF
  have hdup := findG_dup (s := xn) 0 hxi rfl
  have hF3 : findG g.ns xn 0 = F := by rw [← hY2]; exact hF
  rw [hF3, Nat.zero_add] at hdup
  have HD := Lib.hid hdup
  have HF := Lib.hid hfe
  clear hfe hnm hdup hF hF3 hY2 hx hxi
  go_enter Try.func32, Try.ntmps32
  go_wp2_with fail
  refine (rname_of _ _ _ hYs HNM).mono ?_
  rintro e w1 ⟨rfl, rfl⟩
  generalize ((w.alloc (.cells #[.string (bb g.nm), .bool g.dir, .slice (some A) g.ns.length cap, ev, .slice co g.cs.length cc] 26)).alloc (.cells #[.string Y, .string Z, .int .i64 xw, .int .i64 xh, .int .i64 xc, .slice po xp.length pc] 48)) = w1 at HG HK HB HP ⊢
  have HGR1 := Lib.hid (hg.keep HB.out)
  obtain ⟨g0, g1, g2, g3, g4⟩ := HG.out
  obtain ⟨c0, c1, c2, c3, c4, c5⟩ := HK.out
  go_wp2_with fail
  refine (gfind_of _ g Y F w1 HGR1 HFI).mono ?_
  rintro e w4 ⟨rfl, hb4⟩
  have HB4 := Lib.hid (below_keep hb4 HB.out)
  have HP4 := Lib.hid (HP.out.keep hb4)
  have g4 := cell_keep hb4 g4
  have c1 := cell_keep hb4 c1
  have c2 := cell_keep hb4 c2
  have c3 := cell_keep hb4 c3
  have c4 := cell_keep hb4 c4
  have c5 := cell_keep hb4 c5
  clear hb4 c0 g0 g1 g2 g3 HGR1 HG HK HP
  have hfe := HF.out
  clear HF
  by_cases f0 : F = (i : Int)
  case neg =>
    have b0 : (F != (i : Int)) = true := by rw [bne_iff_ne]; exact f0
    have ha : (g.ns.take i).any (fun y => y.nm == xn) = true := by
      cases hq : (g.ns.take i).any (fun y => y.nm == xn)
      · exact absurd (HD.out.2 hq) f0
      · rfl
    rw [if_pos ha] at hfe
    subst hfe
    clear ha f0 HD
    go_wp2
    go_ret
    exact ⟨rfl, HB4.out⟩
  have b0 : (F != (i : Int)) = false := by rw [f0]; simp
  rw [if_neg (by rw [HD.out.1 f0]; decide)] at hfe
  clear HD f0
  rw [hZl] at hfe
  by_cases l0 : 32 < Z.size
  · rw [if_pos l0] at hfe
    subst hfe
    have l1 : (32 : Int) < (Z.size : Int) := by omega
    clear l0
    go_wp2
    go_ret
    exact ⟨rfl, HB4.out⟩
  rw [if_neg l0] at hfe
  have l1 : ¬ (32 : Int) < (Z.size : Int) := by omega
  clear l0
  obtain ⟨pb, hpb⟩ : ∃ b, plainB Z.data.toList = b := ⟨_, rfl⟩
  have HPB := Lib.hid hpb
  have HZE : Hid (plainB xl = pb) := Lib.hid (by rw [← hpb]; congr 1; rw [← HZ2.out])
  rw [HZE.out] at hfe
  clear hpb
  cases pb
  · rw [if_pos rfl] at hfe
    subst hfe
    go_wp2_with fail
    refine (gplain_of _ _ _ hZs HPB).mono ?_
    rintro e w5 ⟨rfl, rfl⟩
    go_wp2
    go_ret
    exact ⟨rfl, HB4.out⟩
  rw [if_neg (by decide)] at hfe
  go_wp2_with fail
  refine (gplain_of _ _ _ hZs HPB).mono ?_
  rintro e w5 ⟨rfl, rfl⟩
  by_cases r0 : xw < 1
  · rw [if_pos (Or.inl r0)] at hfe
    subst hfe
    go_wp2
    go_ret
    exact ⟨rfl, HB4.out⟩
  by_cases r1 : 1048576 < xw
  · rw [if_pos (Or.inr (Or.inl r1))] at hfe
    subst hfe
    go_wp2
    go_ret
    exact ⟨rfl, HB4.out⟩
  by_cases r2 : xh < 1
  · rw [if_pos (Or.inr (Or.inr (Or.inl r2)))] at hfe
    subst hfe
    go_wp2
    go_ret
    exact ⟨rfl, HB4.out⟩
  by_cases r3 : 1048576 < xh
  · rw [if_pos (Or.inr (Or.inr (Or.inr (Or.inl r3))))] at hfe
    subst hfe
    go_wp2
    go_ret
    exact ⟨rfl, HB4.out⟩
  by_cases r4 : xc < -1
  · rw [if_pos (Or.inr (Or.inr (Or.inr (Or.inr (Or.inl r4)))))] at hfe
    subst hfe
    go_wp2
    go_ret
    exact ⟨rfl, HB4.out⟩
  by_cases r5 : (g.cs.length : Int) ≤ xc
  · rw [if_pos (Or.inr (Or.inr (Or.inr (Or.inr (Or.inr r5)))))] at hfe
    subst hfe
    go_wp2
    go_ret
    exact ⟨rfl, HB4.out⟩
  rw [if_neg (by omega)] at hfe
  by_cases p8 : 8 < xp.length
  · rw [if_pos p8] at hfe
    subst hfe
    have p9 : (8 : Int) < (xp.length : Int) := by omega
    clear p8
    go_wp2
    go_ret
    exact ⟨rfl, HB4.out⟩
  rw [if_neg p8] at hfe
  have p9 : ¬ (8 : Int) < (xp.length : Int) := by omega
  have HFE := Lib.hid hfe
  clear p8 hfe
  go_wp2_with fail
  refine (gports_of _ xp R w4 HP4 HFE).mono ?_
  rintro e w6 ⟨rfl, hb6⟩
  have HB6 := Lib.hid (below_keep hb6 HB4.out)
  clear hb6
  go_wp2
  go_ret
  exact ⟨rfl, HB6.out⟩
end Go.Proofs.Ytjeacpohanadnaa.gra
