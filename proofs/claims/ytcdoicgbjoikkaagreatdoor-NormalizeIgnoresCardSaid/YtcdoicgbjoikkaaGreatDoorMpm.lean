/-
  What awake of the statements of layer 12 returns. Condition: the library's variable MaxLen holds a number.
  What the guard few of the statements of layer 12 answers: if it says yes, the tree has fewer than 10^12 statements with few references and attributes. Condition: statements in memory.
  Rows of statements that a call of the statements of layer 12 makes, and what bare returns: the statements without those that set options. Condition: at most 600 statements in memory.
-/
import Derived.Test.YtcdoicgbjoikkaaGreatDoorNorLo
import Derived.Test.YtcdoicgbjoikkaaGreatDoorMtb
import Derived.Test.YtcdoicgbjoikkaaGreatDoorMpc
import Derived.Test.YtcdoicgbjoikkaaGreatDoorMtg
import Derived.Deep.AppendLies
namespace Go.Proofs.YtcdoicgbjoikkaaGreatDoor.nor
open Go.RowKit lex tre att

/-- The chapter's example. -/
def exT : Tr := ⟨[103], true, [St.mk 2 [] [([97], []), ([98], [])] [] [], St.mk 5 [99] [] [] [St.mk 1 [97] [] [] [], St.mk 1 [100] [] [] []]]⟩
theorem o_fact : optsT exT = (⟨0, 10000, 20000, 5000, 8⟩, 0) := by decide +kernel
theorem x_facts : (buildC exT).2 = 0 ∧ (buildC exT).1.ns.length = 3 ∧ (buildC exT).1.es.length = 1 ∧ (buildC exT).1.ns[0]?.map (·.cl) = some (-1) ∧ (buildC exT).1.ns[2]?.map (·.cl) = some 0 ∧ (buildC exT).1.ns[2]?.map (·.nm) = some [100] ∧ (buildC exT).1.es[0]?.map (·.to) = some 1 ∧ cnt exT.body = 4 := by
  refine ⟨?_, ?_, ?_, ?_, ?_, ?_, ?_, ?_⟩ <;> decide +kernel
theorem sts_two {w : World} {b : Nat} {s1 s2 : St} (h0 : stAt w s1 ⟨b, 0, none⟩) (h1 : stAt w s2 ⟨b, 5, none⟩) : Sts w (.slice (some ⟨b, 0, none⟩) 2 2) [s1, s2] :=
  ⟨some ⟨b, 0, none⟩, 2, rfl, Nat.le_refl _, by decide, fun _ => ⟨_, rfl, h0, h1, trivial⟩⟩
theorem okL_ex : okL exT.body := by
  unfold okL
  decide +kernel
/-- The world with the example, and what lies in it. -/
def WX (w : World) : World := (((((w.alloc (.cells #[.string ⟨#[97]⟩, .string ⟨#[]⟩] 58)).alloc (.cells #[.string ⟨#[98]⟩, .string ⟨#[]⟩] 58)).alloc (.cells #[.string ⟨#[97]⟩, .string ⟨#[]⟩, .string ⟨#[98]⟩, .string ⟨#[]⟩] 58)).alloc
  (.cells #[.int .i64 1, .string ⟨#[97]⟩, .slice none 0 0, .slice none 0 0, .slice none 0 0, .int .i64 1, .string ⟨#[100]⟩, .slice none 0 0, .slice none 0 0, .slice none 0 0] 56)).alloc
  (.cells #[.int .i64 2, .string ⟨#[]⟩, .slice (some ⟨w.heap.size + 1 + 1, 0, none⟩) 2 2, .slice none 0 0, .slice none 0 0, .int .i64 5, .string ⟨#[99]⟩, .slice none 0 0, .slice none 0 0, .slice (some ⟨w.heap.size + 1 + 1 + 1, 0, none⟩) 2 2] 56)).alloc
  (.cells #[.string ⟨#[103]⟩, .bool true, .slice (some ⟨w.heap.size + 1 + 1 + 1 + 1, 0, none⟩) 2 2] 24)
theorem wx_facts (w : World) : Below w.heap.size w (WX w) ∧ at3 (WX w) (w.heap.size + 1 + 1 + 1 + 1 + 1) ⟨#[103]⟩ true (.slice (some ⟨w.heap.size + 1 + 1 + 1 + 1, 0, none⟩) 2 2) ∧ TrV (WX w) (.agg #[.string ⟨#[103]⟩, .bool true, .slice (some ⟨w.heap.size + 1 + 1 + 1 + 1, 0, none⟩) 2 2]) exT := by
  obtain ⟨A0, h0⟩ : ∃ A, (w.alloc (.cells #[.string ⟨#[97]⟩, .string ⟨#[]⟩] 58)).alloc (.cells #[.string ⟨#[98]⟩, .string ⟨#[]⟩] 58) = A := ⟨_, rfl⟩
  have s0 : A0.heap.size = w.heap.size + 1 + 1 := by rw [← h0, World.size_alloc, World.size_alloc]
  have b0 : Below w.heap.size w A0 := by rw [← h0]; exact al2 ..
  obtain ⟨A1, h1⟩ : ∃ A, A0.alloc (.cells #[.string ⟨#[97]⟩, .string ⟨#[]⟩, .string ⟨#[98]⟩, .string ⟨#[]⟩] 58) = A := ⟨_, rfl⟩
  have s1 : A1.heap.size = w.heap.size + 1 + 1 + 1 := by rw [← h1, World.size_alloc, s0]
  have k1 : Below A0.heap.size A0 A1 := by rw [← h1]; exact al1 ..
  have p1 : Prs A1 (.slice (some ⟨w.heap.size + 1 + 1, 0, none⟩) 2 2) [([97], []), ([98], [])] := by rw [← h1, ← s0]; exact prs_lit A0 [([97], []), ([98], [])] (by decide) (by unfold Bnd; decide) 58
  obtain ⟨A2, h2⟩ : ∃ A, A1.alloc (.cells #[.int .i64 1, .string ⟨#[97]⟩, .slice none 0 0, .slice none 0 0, .slice none 0 0, .int .i64 1, .string ⟨#[100]⟩, .slice none 0 0, .slice none 0 0, .slice none 0 0] 56) = A := ⟨_, rfl⟩
  have s2 : A2.heap.size = w.heap.size + 1 + 1 + 1 + 1 := by rw [← h2, World.size_alloc, s1]
  have k2 : Below A1.heap.size A1 A2 := by rw [← h2]; exact al1 ..
  have q2 : Sts A2 (.slice (some ⟨w.heap.size + 1 + 1 + 1, 0, none⟩) 2 2) [St.mk 1 [97] [] [] [], St.mk 1 [100] [] [] []] := by
    have hbk : blk A2 (w.heap.size + 1 + 1 + 1) 56 #[.int .i64 1, .string ⟨#[97]⟩, .slice none 0 0, .slice none 0 0, .slice none 0 0, .int .i64 1, .string ⟨#[100]⟩, .slice none 0 0, .slice none 0 0, .slice none 0 0] := by rw [← h2, ← s1]; exact blk_new ..
    refine sts_two ((stAt_eq _ _ _).2 ⟨?_, ?_, by decide, ⟨_, ?_, Prs.nil _⟩, ⟨_, ?_, Prs.nil _⟩, _, ?_, Sts.nil _⟩) ((stAt_eq _ _ _).2 ⟨?_, ?_, by decide, ⟨_, ?_, Prs.nil _⟩, ⟨_, ?_, Prs.nil _⟩, _, ?_, Sts.nil _⟩) <;> exact (blk_cell hbk).trans rfl
  obtain ⟨A3, h3⟩ : ∃ A, A2.alloc (.cells #[.int .i64 2, .string ⟨#[]⟩, .slice (some ⟨w.heap.size + 1 + 1, 0, none⟩) 2 2, .slice none 0 0, .slice none 0 0, .int .i64 5, .string ⟨#[99]⟩, .slice none 0 0, .slice none 0 0, .slice (some ⟨w.heap.size + 1 + 1 + 1, 0, none⟩) 2 2] 56) = A := ⟨_, rfl⟩
  have s3 : A3.heap.size = w.heap.size + 1 + 1 + 1 + 1 + 1 := by rw [← h3, World.size_alloc, s2]
  have k3 : Below A2.heap.size A2 A3 := by rw [← h3]; exact al1 ..
  have p3 := (p1.keep k2).keep k3
  have r3 := q2.keep k3
  have q3 : Sts A3 (.slice (some ⟨w.heap.size + 1 + 1 + 1 + 1, 0, none⟩) 2 2) exT.body := by
    have hbk : blk A3 (w.heap.size + 1 + 1 + 1 + 1) 56 #[.int .i64 2, .string ⟨#[]⟩, .slice (some ⟨w.heap.size + 1 + 1, 0, none⟩) 2 2, .slice none 0 0, .slice none 0 0, .int .i64 5, .string ⟨#[99]⟩, .slice none 0 0, .slice none 0 0, .slice (some ⟨w.heap.size + 1 + 1 + 1, 0, none⟩) 2 2] := by rw [← h3, ← s2]; exact blk_new ..
    refine sts_two ((stAt_eq _ _ _).2 ⟨?_, ?_, by decide, ⟨_, ?_, p3⟩, ⟨_, ?_, Prs.nil _⟩, _, ?_, Sts.nil _⟩) ((stAt_eq _ _ _).2 ⟨?_, ?_, by decide, ⟨_, ?_, Prs.nil _⟩, ⟨_, ?_, Prs.nil _⟩, _, ?_, r3⟩) <;> exact (blk_cell hbk).trans rfl
  obtain ⟨A4, h4⟩ : ∃ A, A3.alloc (.cells #[.string ⟨#[103]⟩, .bool true, .slice (some ⟨w.heap.size + 1 + 1 + 1 + 1, 0, none⟩) 2 2] 24) = A := ⟨_, rfl⟩
  have k4 : Below A3.heap.size A3 A4 := by rw [← h4]; exact al1 ..
  have g4 : at3 A4 (w.heap.size + 1 + 1 + 1 + 1 + 1) ⟨#[103]⟩ true (.slice (some ⟨w.heap.size + 1 + 1 + 1 + 1, 0, none⟩) 2 2) := by rw [← h4, ← s3]; exact at3_new ..
  have hW : WX w = A4 := by unfold WX; rw [h0, h1, h2, h3, h4]
  rw [hW]
  exact ⟨below_keep k4 (below_keep k3 (below_keep k2 (below_keep k1 b0))), g4, _, rfl, by decide, q3.keep k4⟩
set_option maxRecDepth 100000 in
set_option maxHeartbeats 4000000 in
theorem awake_of (w : World) (hM : Hid (Mx w)) : Calls Tryz.prog 9 #[] w fun e w' => e = .returned (.bool true) ∧ Below w.heap.size w w' := by
  go_enter Tryz.func9, Tryz.ntmps9
  go_wp2_with fail
  have hwx := wx_facts w
  obtain ⟨W, hW⟩ : ∃ W, WX w = W := ⟨_, rfl⟩
  rw [hW] at hwx
  unfold WX at hW
  rw [hW]
  obtain ⟨hb0, ha0, ht0⟩ := hwx
  have HB0 := Lib.hid hb0
  have HA0 := Lib.hid ha0
  have HT0 := Lib.hid ht0
  have HM0 := mx_keep hM hb0
  obtain ⟨f0, f1, f2, f3, f4, f5, f6, f7⟩ := x_facts
  obtain ⟨G, hG⟩ : ∃ G, (buildC exT).1 = G := ⟨_, rfl⟩
  rw [hG] at f1 f2 f3 f4 f5 f6
  have HBC : Hid (buildC exT = (G, 0)) := Lib.hid (by rw [← hG, ← f0])
  have hcn : cnt exT.body ≤ 2000000000000 := by rw [f7]; decide
  clear hW hb0 ha0 ht0 hG f0 f7
  refine (build_of _ exT G 0 W HM0 HT0 hcn (Lib.hid okL_ex) HBC).mono ?_
  rintro e w1 ⟨gv, rfl, hgv, hb1⟩
  have HB1 := Lib.hid (below_keep hb1 HB0.out)
  have HA1 := Lib.hid (at3_keep HA0.out hb1)
  have HT1 := Lib.hid (HT0.out.keep hb1)
  have HM1 := mx_keep HM0 hb1
  obtain ⟨nv, ev, cv, rfl, -, hns, hes, hcs⟩ := hgv
  obtain ⟨co, cc, rfl, -, -, -⟩ := hcs
  obtain ⟨cn, hcn2⟩ : ∃ n, G.cs.length = n := ⟨_, rfl⟩
  simp only [hcn2]
  clear hcn2
  obtain ⟨no, nc, rfl, -, -, -⟩ := id hns
  obtain ⟨eo, ec, rfl, -, -, -⟩ := id hes
  obtain ⟨A, rfl, n0⟩ := hns.get (k := 0) (by omega)
  obtain ⟨A', e', n2⟩ := hns.get (k := 2) (by omega)
  cases e'
  obtain ⟨C, rfl, e0⟩ := hes.get (k := 0) (by omega)
  rw [List.getElem?_eq_getElem (by omega)] at f3 f4 f5 f6
  simp only [Option.map_some, Option.some.injEq] at f3 f4 f5 f6
  obtain ⟨-, -, -, -, c0, -, -⟩ := n0
  obtain ⟨m2, -, -, -, c2, -, -⟩ := n2
  obtain ⟨-, t0, -⟩ := e0
  rw [f3] at c0
  rw [f4] at c2
  rw [f5] at m2
  rw [f6] at t0
  rw [f1, f2]
  clear hb1 hns hes f3 f4 f5 f6 HA0 HT0 HB0 HM0 hM
  have hal := al1 w1 (.cells #[.string (bb G.nm), .bool G.dir, .slice (some A) 3 nc, .slice (some C) 1 ec, .slice co cn cc] 31)
  have HGA := Lib.hid (gra.gat_new w1 (bb G.nm) G.dir (.slice (some A) 3 nc) (.slice (some C) 1 ec) (.slice co cn cc) 31)
  have HB2 := Lib.hid (below_keep hal HB1.out)
  have HA2 := Lib.hid (at3_keep HA1.out hal)
  have HT2 := Lib.hid (HT1.out.keep hal)
  have HM2 := mx_keep HM1 hal
  have HC := Lib.hid (And.intro (cell_keep hal c0) (And.intro (cell_keep hal c2) (And.intro (cell_later' hal m2) (cell_keep hal t0))))
  obtain ⟨a0, a1, a2⟩ := HA2.out
  clear hal c0 c2 m2 t0
  go_wp2_with fail
  generalize w1.alloc (.cells #[.string (bb G.nm), .bool G.dir, .slice (some A) 3 nc, .slice (some C) 1 ec, .slice co cn cc] 31) = w2 at *
  clear a0 a1 a2
  refine (opts_of _ exT ⟨0, 10000, 20000, 5000, 8⟩ 0 w2 HM2 HT2 hcn (Lib.hid o_fact)).mono ?_
  rintro e w3 ⟨he, hb3⟩
  have he2 : e = .returned (.tuple #[.agg #[.int .i64 0, .int .i64 10000, .int .i64 20000, .int .i64 5000, .int .i64 8], .int .i64 0]) := he
  subst he2
  have hal := al1 w3 (.cells #[.int .i64 0, .int .i64 10000, .int .i64 20000, .int .i64 5000, .int .i64 8] 38)
  have hq := below_keep hal hb3
  have HBF := Lib.hid (below_keep hq HB2.out)
  obtain ⟨g0, g1, g2, g3, g4⟩ := gra.gat_keep HGA.out hq
  obtain ⟨y0, y2, ym, yt⟩ := HC.out
  have c0 : (w3.alloc (.cells #[.int .i64 0, .int .i64 10000, .int .i64 20000, .int .i64 5000, .int .i64 8] 38)).cell? ⟨A.block, A.off + 4, none⟩ = some (.int .i64 (-1)) := cell_keep hq y0
  have c2 : (w3.alloc (.cells #[.int .i64 0, .int .i64 10000, .int .i64 20000, .int .i64 5000, .int .i64 8] 38)).cell? ⟨A.block, A.off + 12 + 4, none⟩ = some (.int .i64 0) := cell_keep hq y2
  have c3 : (w3.alloc (.cells #[.int .i64 0, .int .i64 10000, .int .i64 20000, .int .i64 5000, .int .i64 8] 38)).cell? ⟨A.block, A.off + 16, none⟩ = some (.int .i64 0) := c2
  have m2 : (w3.alloc (.cells #[.int .i64 0, .int .i64 10000, .int .i64 20000, .int .i64 5000, .int .i64 8] 38)).cell? (A.add 12) = some (.string ⟨#[100]⟩) := cell_later' hq ym
  have m3 : (w3.alloc (.cells #[.int .i64 0, .int .i64 10000, .int .i64 20000, .int .i64 5000, .int .i64 8] 38)).cell? ⟨A.block, A.off + 12, none⟩ = some (.string ⟨#[100]⟩) := by
    first | exact m2 | (have h := m2; simp only [World.cell?, Addr.add] at h ⊢; exact h) | (rw [← m2]; rfl)
  have t0 : (w3.alloc (.cells #[.int .i64 0, .int .i64 10000, .int .i64 20000, .int .i64 5000, .int .i64 8] 38)).cell? ⟨C.block, C.off + 1, none⟩ = some (.int .i64 1) := cell_keep hq yt
  clear y0 y2 ym yt
  obtain ⟨o0, o1, o2, o3, o4⟩ := at5_new w3 ⟨0, 10000, 20000, 5000, 8⟩ 38
  simp only at o0 o1 o2 o3 o4
  have heq := eql_op ⟨0, 10000, 20000, 5000, 8⟩ ⟨0, 10000, 20000, 5000, 8⟩ true (Lib.hid (by decide))
  have hgo := guard_op
  simp only at heq
  clear he hb3 hal hq HC HGA HB1 HB2 HA1 HA2 HT1 HT2 HM1 HM2
  go_wp2_with fail
  go_wp2
  go_ret
  exact ⟨rfl, HBF.out⟩
end Go.Proofs.YtcdoicgbjoikkaaGreatDoor.nor
namespace Go.Proofs.YtcdoicgbjoikkaaGreatDoor.nor
open Go.RowKit lex tre

/-- So many statements at most, with so many levels left. -/
def fewN : Nat → Nat
  | 0 => 0
  | k + 1 => 20 * (1 + fewN k)
def FewOut (l : List St) (k : Nat) (w : World) (e : Ending) (w' : World) : Prop := ∃ b, e = .returned (.bool b) ∧ (b = true → cnt l ≤ fewN k ∧ okL l) ∧ w' = w
def FewOk (l : List St) : Prop := ∀ (w : World) (v : Value) (k : Nat) (d : Int), k ≤ 9 → d = 9 - (k : Int) → Sts w v l → Calls Tryz.prog 8 #[v, .int .i64 d] w (FewOut l k w)
theorem ok_snoc {l : List St} {s : St} (h : okL l) (h1 : s.refs.length ≤ 40) (h2 : s.attrs.length ≤ 40) (hb : okL s.body) : okL (l ++ [s]) := by
  intro x hx
  rw [preL_app] at hx
  rcases List.mem_append.1 hx with hx | hx
  · exact h x hx
  · exact okL_cons.2 ⟨⟨h1, h2⟩, hb, fun y hy => by cases hy⟩ x hx
theorem cnt_snoc (l : List St) (s : St) : cnt (l ++ [s]) = cnt l + 1 + cnt s.body := by
  unfold cnt
  rw [preL_app, List.length_append, preL_cons, preL_nil, List.append_nil, preS_eq, List.length_cons, pre_len.2 s.body _ 0]
  omega
set_option maxRecDepth 100000 in
set_option maxHeartbeats 8000000 in
theorem few_step (l : List St) (ih : ∀ s ∈ l, FewOk s.body) : FewOk l := by
  intro w v q d hq hd hs
  have hs' := hs
  obtain ⟨ao, cap, rfl, hc, hm, _⟩ := hs'
  have HS := Lib.hid hs
  have IH := Lib.hid ih
  unfold maxLen at hm
  have hlm : l.length ≤ 9223372036854775807 := by omega
  clear hs ih hc hm
  by_cases g1 : (20 : Int) < (l.length : Int)
  · have d1 : decide ((20 : Int) < (l.length : Int)) = true := decide_eq_true g1
    have d1' : decide (20 < l.length) = true := decide_eq_true (by omega)
    clear hd
    go_enter Tryz.func8, Tryz.ntmps8
    go_wp2
    go_ret
    exact ⟨false, rfl, (fun h => by cases h), rfl⟩
  have d1 : decide ((20 : Int) < (l.length : Int)) = false := decide_eq_false g1
  have d1' : decide (20 < l.length) = false := decide_eq_false (by omega)
  by_cases g2 : (8 : Int) < d
  · have d2 : decide ((8 : Int) < d) = true := decide_eq_true g2
    clear hd
    go_enter Tryz.func8, Tryz.ntmps8
    go_wp2
    go_ret
    exact ⟨false, rfl, (fun h => by cases h), rfl⟩
  have d2 : decide ((8 : Int) < d) = false := decide_eq_false g2
  obtain ⟨p, rfl⟩ : ∃ p, q = p + 1 := ⟨q - 1, by omega⟩
  have HD : Hid (d + 1 = 9 - (p : Int)) := Lib.hid (by omega)
  have hd0 : 0 ≤ d := by omega
  have hd9 : d ≤ 9 := by omega
  have hp9 : p ≤ 9 := by omega
  have hl20 : l.length ≤ 20 := by omega
  clear hd hq
  go_enter Tryz.func8, Tryz.ntmps8
  go_wp2_with fail
  go_loop [5] (fun iv => ∃ k : Nat, iv = .int .i64 k ∧ k ≤ l.length ∧ cnt (l.take k) ≤ k * (1 + fewN p) ∧ okL (l.take k)) (fun iv => l.length - (intOf iv).toNat)
  case atStart => exact ⟨0, rfl, Nat.zero_le _, by rw [List.take_zero, cnt_nil]; omega, fun x hx => by rw [List.take_zero] at hx; cases hx⟩
  case round =>
    obtain ⟨k, rfl, hk, hcn, hok⟩ := hrel
    have HCN := Lib.hid hcn
    have HOK := Lib.hid hok
    clear hcn hok
    by_cases hlt : k < l.length
    · obtain ⟨A, rfl, hst⟩ := HS.out.get hlt
      obtain ⟨_, _, _, ⟨rv, c2, hrv⟩, ⟨av, c3, hav⟩, bv, c4, hbv⟩ := (stAt_eq _ _ _).1 hst
      obtain ⟨ro, rc, rfl, _, _, _⟩ := hrv
      obtain ⟨so, sc, rfl, _, _, _⟩ := hav
      have hb := IH.out l[k] (List.getElem_mem hlt)
      have htk := (tre.cnt_take hlt).2
      obtain ⟨s, hse⟩ : ∃ s, l[k] = s := ⟨_, rfl⟩
      rw [hse] at c2 c3 hbv hb htk
      have HBC := Lib.hid (hb w bv p (d + 1) hp9 HD.out hbv)
      have HTK := Lib.hid htk
      have z0 : (0 : Int) ≤ (k : Int) := by omega
      have z1 : (k : Int) < (l.length : Int) := by omega
      clear hst hbv hb hse htk
      by_cases r1 : (10 : Int) < (s.refs.length : Int)
      · have e1 : decide ((10 : Int) < (s.refs.length : Int)) = true := decide_eq_true r1
        have e1' : decide (10 < s.refs.length) = true := decide_eq_true (by omega)
        go_wp2
        go_ret
        exact ⟨false, rfl, (fun h => by cases h), rfl⟩
      have e1 : decide ((10 : Int) < (s.refs.length : Int)) = false := decide_eq_false r1
      have e1' : decide (10 < s.refs.length) = false := decide_eq_false (by omega)
      by_cases r2 : (20 : Int) < (s.attrs.length : Int)
      · have e2 : decide ((20 : Int) < (s.attrs.length : Int)) = true := decide_eq_true r2
        have e2' : decide (20 < s.attrs.length) = true := decide_eq_true (by omega)
        go_wp2
        go_ret
        exact ⟨false, rfl, (fun h => by cases h), rfl⟩
      have e2 : decide ((20 : Int) < (s.attrs.length : Int)) = false := decide_eq_false r2
      have e2' : decide (20 < s.attrs.length) = false := decide_eq_false (by omega)
      have hz1 : s.refs.length ≤ 40 := by omega
      have hz2 : s.attrs.length ≤ 40 := by omega
      go_wp2_with fail
      refine HBC.out.mono ?_
      rintro e w2 ⟨b, rfl, hb, rfl⟩
      have HB := Lib.hid hb
      clear hb
      cases b
      · go_wp2
        go_ret
        exact ⟨false, rfl, (fun h => by cases h), rfl⟩
      · obtain ⟨hb1, hb2⟩ := HB.out rfl
        have HN : Hid (cnt (l.take (k + 1)) ≤ (k + 1) * (1 + fewN p) ∧ okL (l.take (k + 1))) := Lib.hid ⟨by rw [HTK.out, cnt_snoc, Nat.add_mul, Nat.one_mul]; have := HCN.out; omega, by rw [HTK.out]; exact ok_snoc HOK.out hz1 hz2 hb2⟩
        clear hb1 hb2
        go_wp2
        go_round
        case rel => exact ⟨k + 1, by go_num, by omega, HN.out.1, HN.out.2⟩
        case measure => simp [intOf]; omega
    · obtain rfl : k = l.length := by omega
      go_wp2
      go_ret
      refine ⟨true, rfl, (fun _ => ?_), rfl⟩
      have h1 := HCN.out
      have h2 := HOK.out
      rw [List.take_length] at h1 h2
      refine ⟨?_, h2⟩
      show cnt l ≤ 20 * (1 + fewN p)
      exact Nat.le_trans h1 (Nat.mul_le_mul_right _ hl20)
theorem few_of (l : List St) : FewOk l := lst_ind few_step l
theorem few_bound : fewN 9 ≤ 1000000000000 := by decide
end Go.Proofs.YtcdoicgbjoikkaaGreatDoor.nor
namespace Go.Proofs.YtcdoicgbjoikkaaGreatDoor.nor
open Go.RowKit lex tre att

structure Sv where
  s : St
  rv : Value
  av : Value
  bv : Value
def svC (x : Sv) : List Value := [.int .i64 x.s.kind, .string (bb x.s.name), x.rv, x.av, x.bv]
def svOk (w : World) (x : Sv) : Prop := x.s.name.length ≤ maxLen ∧ Prs w x.rv x.s.refs ∧ Prs w x.av x.s.attrs ∧ Sts w x.bv x.s.body
theorem svC_len (x : Sv) : (svC x).length = 5 := rfl
/-- Two worlds agree on the blocks from lo to hi. -/
def agree (lo hi : Nat) (w W : World) : Prop := ∀ q, lo ≤ q → q < hi → W.heap[q]? = w.heap[q]?
/-- What holds in every world that keeps w0's memory and agrees on the blocks from lo on. -/
def selfB (w0 : World) (lo : Nat) (w : World) (v : Value) (l : List St) : Prop := ∀ W, Below w0.heap.size w0 W → agree lo w.heap.size w W → Sts W v l
theorem selfB.sts {w0 w : World} {lo : Nat} {v : Value} {l : List St} (h : selfB w0 lo w v l) (hb : Below w0.heap.size w0 w) : Sts w v l := h w hb (fun _ _ _ => rfl)
def elB (w0 : World) (lo0 : Nat) (w : World) (ob : Option Nat) (x : Sv) : Prop := ∃ lo hi, lo0 ≤ lo ∧ hi ≤ w.heap.size ∧ (∀ q, ob = some q → ¬ (lo ≤ q ∧ q < hi)) ∧ ∀ W, Below w0.heap.size w0 W → agree lo hi w W → svOk W x
theorem elB.later {w0 : World} {lo0 : Nat} {w w' : World} {ob : Option Nat} {x : Sv} (h : elB w0 lo0 w ob x) (hb : Below w.heap.size w w') : elB w0 lo0 w' ob x := by
  obtain ⟨lo, hi, h1, h2, h3, h4⟩ := h
  refine ⟨lo, hi, h1, Nat.le_trans h2 hb.size, h3, fun W hW0 hW => h4 W hW0 (fun q q1 q2 => ?_)⟩
  rw [hW q q1 q2]; exact hb.block q (by omega)
theorem elB.app {w0 : World} {lo0 : Nat} {w w' : World} {ob : Option Nat} {g : Nat} {x : Sv} (h : elB w0 lo0 w ob x) (hg : w.grownBy w' ob) (hat : ob = some g ∨ w.heap.size ≤ g) : elB w0 lo0 w' (some g) x := by
  obtain ⟨lo, hi, h1, h2, h3, h4⟩ := h
  refine ⟨lo, hi, h1, Nat.le_trans h2 hg.size, fun q hq e => ?_, fun W hW0 hW => h4 W hW0 (fun q q1 q2 => ?_)⟩
  · have hq := Option.some.inj hq
    rcases hat with hat | hat
    · exact h3 g hat (by omega)
    · omega
  · rw [hW q q1 q2]
    exact hg.block q (by omega) (fun e => h3 q e.symm ⟨q1, q2⟩)
theorem row_selfB {w0 w : World} {B lo0 : Nat} {v : Value} {D : List Sv} {ob : Option Nat} (h : w.ownsRow B 56 5 v D.length (D.flatMap svC)) (hB : lo0 ≤ B) (hD : ∀ x ∈ D, elB w0 lo0 w ob x) : selfB w0 lo0 w v (D.map Sv.s) := by
  intro W hW0 hW
  by_cases h0 : D.length = 0
  · obtain ⟨ao, cap, rfl, h1, h2⟩ := own_form h
    exact ⟨ao, cap, by rw [List.length_map], by rw [List.length_map]; exact h1, h2, fun hn => by rw [List.length_map] at hn; omega⟩
  · obtain ⟨g, cap, arr, rfl, hBg, hk, h1, h2, h3⟩ := own_blk h (by omega)
    have hkW : blk W g 56 arr := by unfold blk at hk ⊢; rw [hW g (by omega) (blk_lt hk)]; exact hk
    refine ⟨_, cap, by rw [List.length_map], by rw [List.length_map]; exact h1, h2, fun _ => ⟨_, rfl, stsAt_of fun j hj => ?_⟩⟩
    have hj' : j < D.length := by simpa using hj
    obtain ⟨lo, hi, q1, q2, _, q4⟩ := hD D[j] (List.getElem_mem hj')
    obtain ⟨hn, hr, ha, hb⟩ := q4 W hW0 (fun q e1 e2 => hW q (by omega) (by omega))
    have hc : ∀ i, i < 5 → arr[j * 5 + i]? = (svC D[j])[i]? := fun i hi' => by rw [h3 _ (by omega)]; exact flat_get svC 5 svC_len D j i hj' hi'
    have hs : (D.map Sv.s)[j] = D[j].s := by rw [List.getElem_map]
    rw [hs, Nat.zero_add, att.add_at, Nat.zero_add]
    refine (stAt_eq _ _ _).2 ⟨?_, ?_, hn, ⟨_, ?_, hr⟩, ⟨_, ?_, ha⟩, _, ?_, hb⟩
    · rw [blk_cell hkW, ← Nat.add_zero (j * 5), hc 0 (by omega)]; rfl
    · show W.cell? ⟨g, j * 5 + 1, none⟩ = _; rw [blk_cell hkW, hc 1 (by omega)]; rfl
    · show W.cell? ⟨g, j * 5 + 2, none⟩ = _; rw [blk_cell hkW, hc 2 (by omega)]; rfl
    · show W.cell? ⟨g, j * 5 + 3, none⟩ = _; rw [blk_cell hkW, hc 3 (by omega)]; rfl
    · show W.cell? ⟨g, j * 5 + 4, none⟩ = _; rw [blk_cell hkW, hc 4 (by omega)]; rfl
theorem info_cls : (Tryz.prog.info? 56).map (fun i => (i.zero, i.size, i.bytes)) = some (some (.agg #[.int .i64 0, .string ⟨#[]⟩, .slice none 0 0, .slice none 0 0, .slice none 0 0]), 5, 96) := by kernel_rfl
theorem info_of_cls : ∃ i, Tryz.prog.info? 56 = some i ∧ i.zero = some (.agg #[.int .i64 0, .string ⟨#[]⟩, .slice none 0 0, .slice none 0 0, .slice none 0 0]) ∧ i.size = 5 ∧ i.bytes = 96 := by
  have h := info_cls
  cases hq : Tryz.prog.info? 56 with
  | none => rw [hq] at h; cases h
  | some i =>
    rw [hq] at h
    simp only [Option.map_some, Option.some.injEq, Prod.mk.injEq] at h
    exact ⟨i, rfl, h.1, h.2.1, h.2.2⟩
/-- One statement more in a row that a call makes. -/
theorem app_sv {w : World} {ops : Array Oper} {rest : List Oper} {o : Oper} {a : Act} {Q : Exit → Act → World → Prop} (hg : o.guard = none) (p y : Operand) (ho : o.op = .call { callee := .builtin .append, args := #[p, y], argTypes := #[22, 22] })
    (w0 : World) (B : Nat) (v : Value) (D : List Sv) (x : Sv) (H : Nat) (hH : w.heap.size = H) (hs : a.eval p = v) (hx : a.eval y = .slice (some ⟨H, 0, none⟩) 1 1) (h : Hid (w.ownsRow B 56 5 v D.length (D.flatMap svC))) (hD : Hid (∀ z ∈ D, elB w0 B w v.ownBlock z)) (hx0 : Hid (elB w0 B w v.ownBlock x)) (hl : D.length ≤ 1000000) (hB : B ≤ w.heap.size) (hv1 : x.rv.oneCell' = true) (hv2 : x.av.oneCell' = true) (hv3 : x.bv.oneCell' = true)
    (hK : ∀ v' w', w'.ownsRow B 56 5 v' (D ++ [x]).length ((D ++ [x]).flatMap svC) → (∀ z ∈ D ++ [x], elB w0 B w' v'.ownBlock z) → w.grownBy w' v.ownBlock → wpList Tryz.prog ops Q rest (a.put o.dst v') w') : wpList Tryz.prog ops Q (o :: rest) a (w.alloc (.cells #[.int .i64 x.s.kind, .string (bb x.s.name), x.rv, x.av, x.bv] 56)) := by
  subst hH
  obtain ⟨i0, hi, hz0, hz1, hz2⟩ := info_of_cls
  refine wpList_append_lies _ hg p y 22 ho B 56 i0 _ 5 96 Tryz.underlying22 hi hz0 hz1 hz2 rfl (by decide) v D.length (D.flatMap svC) hs (World.ownsRow.alloc h.out _) ⟨w.heap.size, 0, none⟩ 1 1 [.int .i64 x.s.kind, .string (bb x.s.name), x.rv, x.av, x.bv] hx rfl ?_ (fun u hu => by
      simp only [List.mem_cons, List.not_mem_nil, or_false] at hu
      rcases hu with rfl | rfl | rfl | rfl | rfl
      · rfl
      · rfl
      · exact hv1
      · exact hv2
      · exact hv3) (by decide) (by unfold maxLen; omega) (by omega) (by simp; omega) (w.heap.size + 1) (by simp) ?_
  · intro j u hj
    rw [att.add_at, Nat.zero_add, blk_cell (blk_new w #[.int .i64 x.s.kind, .string (bb x.s.name), x.rv, x.av, x.bv] 56), ← hj]
    simp
  · intro g9 c9 w9 own9 grow9 hat9 hlt9
    have hgr : w.grownBy w9 v.ownBlock := ⟨grow9.os, grow9.tape, grow9.output, Nat.le_trans (by simp) grow9.size, fun k hk hne => by rw [grow9.block k (by simp; omega) hne, heap_alloc_old w _ hk]⟩
    have hat : v.ownBlock = some g9 ∨ w.heap.size ≤ g9 := hat9.imp id (fun e => by omega)
    refine hK _ w9 ?_ ?_ hgr
    · rw [List.length_append, List.flatMap_append]; exact own9
    · intro z hz
      rcases List.mem_append.1 hz with hz | hz
      · exact (hD.out z hz).app hgr hat
      · obtain rfl : z = x := by simpa using hz
        exact hx0.out.app hgr hat

mutual
def bareS : St → List St
  | .mk k n r a b => if k = 4 then [] else [.mk k n r a (bareL b)]
def bareL : List St → List St
  | [] => []
  | s :: t => bareS s ++ bareL t
end
theorem bareS_eq (s : St) : bareS s = if s.kind = 4 then [] else [.mk s.kind s.name s.refs s.attrs (bareL s.body)] := by cases s; rw [bareS]; rfl
theorem bareL_app : ∀ a b : List St, bareL (a ++ b) = bareL a ++ bareL b
  | [], b => by rw [bareL]; rfl
  | x :: t, b => by rw [List.cons_append, bareL, bareL, bareL_app t b, List.append_assoc]
theorem bareL_take {l : List St} {k : Nat} (h : k < l.length) : bareL (l.take (k + 1)) = bareL (l.take k) ++ bareS l[k] := by
  rw [List.take_succ_eq_append_getElem h, bareL_app]
  congr 1
  rw [bareL, bareL, List.append_nil]
theorem bareS_len (s : St) : (bareS s).length ≤ 1 := by rw [bareS_eq]; split <;> simp
theorem bareL_len : ∀ l : List St, (bareL l).length ≤ l.length
  | [] => by rw [bareL]; exact Nat.le_refl _
  | s :: t => by rw [bareL, List.length_append, List.length_cons]; have := bareS_len s; have := bareL_len t; omega
def BrOut (L : List St) (w0 w : World) (e : Ending) (w' : World) : Prop := ∃ ao cap, e = .returned (.slice ao L.length cap) ∧ selfB w0 w.heap.size w' (.slice ao L.length cap) L ∧ Below w.heap.size w w'
def BrOk (l : List St) : Prop := ∀ (w0 w : World) (v : Value), Hid (Below w0.heap.size w0 w) → Hid (Sts w0 v l) → cnt l ≤ 600 → Calls Tryz.prog 21 #[v] w (BrOut (bareL l) w0 w)
set_option maxRecDepth 100000 in
set_option maxHeartbeats 2000000 in
theorem bare_step (l : List St) (ih : ∀ s ∈ l, BrOk s.body) : BrOk l := by
  intro w0 w v HB HS hn
  have hlm0 : l.length ≤ 600 := by have := len_cnt l; omega
  have IH := Lib.hid ih
  obtain ⟨ao, cap, rfl, -, -, -⟩ := id HS.out
  have hz0 := HB.out.size
  have hlm : l.length ≤ 9223372036854775807 := by omega
  clear ih
  go_enter Tryz.func21, Tryz.ntmps21
  go_wp2_with fail
  go_loopw [3, 4] (fun ov iv wr => ∃ (k : Nat) (D : List Sv), iv = .int .i64 k ∧ k ≤ l.length ∧ wr.ownsRow w.heap.size 56 5 ov D.length (D.flatMap svC) ∧ D.map Sv.s = bareL (l.take k) ∧ (∀ x ∈ D, elB w0 w.heap.size wr ov.ownBlock x) ∧ Below w.heap.size w wr) (fun _ iv _ => l.length - (intOf iv).toNat)
  case atStart => exact ⟨0, [], rfl, Nat.zero_le _, World.ownsRow_nil .., by rw [List.take_zero, bareL]; rfl, fun _ h => (by cases h), Below.refl _ _⟩
  case round =>
    obtain ⟨k, D, rfl, hk, how, hDm, hD, hBr⟩ := hrel
    rename World => wr
    have HOw := Lib.hid how
    have HDm := Lib.hid hDm
    have HD := Lib.hid hD
    have hsz := hBr.size
    have HBr := Lib.hid hBr
    have HBw := Lib.hid (HB.out.trans (hBr.mono hz0))
    have hDl : D.length ≤ 600 := by
      have h1 := congrArg List.length hDm
      rw [List.length_map] at h1
      have h2 := bareL_len (l.take k)
      rw [List.length_take] at h2
      omega
    obtain ⟨ov, hov⟩ : ∃ q, q = how := ⟨_, rfl⟩
    clear hov ov how hDm hD hBr
    by_cases hlt : k < l.length
    case neg =>
      obtain rfl : k = l.length := by omega
      obtain ⟨so, sc, rfl, -, -⟩ := own_form HOw.out
      have HE : Hid (selfB w0 w.heap.size wr (.slice so D.length sc) (bareL l) ∧ D.length = (bareL l).length) := Lib.hid (by
        have h := row_selfB HOw.out (Nat.le_refl _) HD.out
        have e := HDm.out
        rw [List.take_length] at e
        rw [e] at h
        exact ⟨h, by rw [← e, List.length_map]⟩)
      go_wp2
      go_ret
      obtain ⟨e1, e2⟩ := HE.out
      rw [e2] at e1 ⊢
      exact ⟨_, _, rfl, e1, HBr.out⟩
    obtain ⟨A, rfl, hst⟩ := HS.out.get hlt
    have hbt := bareL_take hlt
    rw [bareS_eq] at hbt
    have hcnt : cnt l[k].body ≤ 600 := by have := (cnt_take hlt); omega
    have HIH := Lib.hid (IH.out _ (List.getElem_mem hlt))
    obtain ⟨s, hs⟩ : ∃ s, l[k] = s := ⟨_, rfl⟩
    rw [hs] at hst hbt hcnt HIH
    obtain ⟨p0, p1, hnm, ⟨rv, p2, hrv⟩, ⟨av, p3, hav⟩, bv, p4, hbv⟩ := (stAt_eq _ _ _).1 hst
    have HRV := Lib.hid hrv
    have HAV := Lib.hid hav
    have HBV := Lib.hid hbv
    have HNM := Lib.hid hnm
    obtain ⟨ro, rc, rfl, -, -, -⟩ := hrv
    obtain ⟨so, sc, rfl, -, -, -⟩ := hav
    obtain ⟨bo, bc, rfl, -, -, -⟩ := hbv
    have p0 := cell_later' HBw.out p0
    have p1 := cell_later' HBw.out p1
    have p2 := cell_later' HBw.out p2
    have p3 := cell_later' HBw.out p3
    have p4 := cell_later' HBw.out p4
    have i0 : (0 : Int) ≤ (k : Int) := by omega
    have i1 : (k : Int) < (l.length : Int) := by omega
    have hal := al1 wr (.cells #[.int .i64 s.kind, .string (bb s.name), .slice ro s.refs.length rc, .slice so s.attrs.length sc, .slice bo s.body.length bc] 56)
    have hbk := blk_new wr #[.int .i64 s.kind, .string (bb s.name), .slice ro s.refs.length rc, .slice so s.attrs.length sc, .slice bo s.body.length bc] 56
    have t0 := tbx_new wr s.kind (bb s.name) ro so bo s.refs.length rc s.attrs.length sc s.body.length bc 56
    have hs1 : (wr.alloc (.cells #[.int .i64 s.kind, .string (bb s.name), .slice ro s.refs.length rc, .slice so s.attrs.length sc, .slice bo s.body.length bc] 56)).heap.size = wr.heap.size + 1 := by simp
    obtain ⟨t0, t1, t2, t3, t4⟩ := t0
    have HBK := Lib.hid hbk
    have HO1 := Lib.hid (Go.Proofs.YtcdoicgbjoikkaaGreatDoor.own_keep HOw.out hal)
    have HAL := Lib.hid hal
    have HD1 : Hid (∀ x ∈ D, elB w0 w.heap.size (wr.alloc (.cells #[.int .i64 s.kind, .string (bb s.name), .slice ro s.refs.length rc, .slice so s.attrs.length sc, .slice bo s.body.length bc] 56)) _ x) := Lib.hid (fun x hx => (HD.out x hx).later hal)
    have HB1 := Lib.hid (below_keep hal HBr.out)
    have HW1 := Lib.hid (below_keep hal HBw.out)
    clear hst hs hnm hal hbk
    by_cases h4 : s.kind = 4
    · have z4 : (s.kind == 4) = true := by rw [beq_iff_eq]; exact h4
      rw [if_pos h4, List.append_nil] at hbt
      have HN : Hid (D.map Sv.s = bareL (l.take (k + 1))) := Lib.hid (by rw [hbt]; exact HDm.out)
      clear hbt h4
      go_wp2
      go_roundw
      case rel => exact ⟨k + 1, D, by go_num, by omega, HO1.out, HN.out, HD1.out, HB1.out⟩
      case measure => simp [intOf]; omega
    · have z4 : (s.kind == 4) = false := by rw [beq_eq_false_iff_ne]; exact h4
      rw [if_neg h4] at hbt
      have HBT := Lib.hid hbt
      clear hbt h4
      go_wp2_with fail
      generalize wr.alloc (.cells #[.int .i64 s.kind, .string (bb s.name), .slice ro s.refs.length rc, .slice so s.attrs.length sc, .slice bo s.body.length bc] 56) = w1 at *
      clear p0 p1 p2 p3 p4 t0 t1 t2 t3 t4
      refine (HIH.out w0 w1 _ HW1 HBV hcnt).mono ?_
      rintro e w7 ⟨o7, c7, rfl, hself7, hb7⟩
      have hs7 := hb7.size
      have HS7 := Lib.hid hself7
      have hk7 := blk_below HBK.out hb7
      have hB17 := below_keep hb7 HAL.out
      have g0 : w7.cell? ⟨wr.heap.size, 0, none⟩ = some (.int .i64 s.kind) := by rw [blk_cell hk7]; rfl
      have g1 : w7.cell? ⟨wr.heap.size, 1, none⟩ = some (.string (bb s.name)) := by rw [blk_cell hk7]; rfl
      have g2 : w7.cell? ⟨wr.heap.size, 2, none⟩ = some (.slice ro s.refs.length rc) := by rw [blk_cell hk7]; rfl
      have g3 : w7.cell? ⟨wr.heap.size, 3, none⟩ = some (.slice so s.attrs.length sc) := by rw [blk_cell hk7]; rfl
      have g4 : w7.cell? ⟨wr.heap.size, 4, none⟩ = some (.slice bo s.body.length bc) := by rw [blk_cell hk7]; rfl
      have f4 : w7.frozen? ⟨wr.heap.size, 4, none⟩ = false := blk_free hk7
      have hB8 := hB17.setCell (p := ⟨wr.heap.size, 4, none⟩) (Nat.le_refl _) (.slice o7 (bareL s.body).length c7)
      have hz8 : (w7.setCell ⟨wr.heap.size, 4, none⟩ (.slice o7 (bareL s.body).length c7)).heap.size = w7.heap.size := by simp [World.setCell]
      have HO8 := Lib.hid (Go.Proofs.YtcdoicgbjoikkaaGreatDoor.own_keep HOw.out hB8)
      have HD8 : Hid (∀ x ∈ D, elB w0 w.heap.size (w7.setCell ⟨wr.heap.size, 4, none⟩ (.slice o7 (bareL s.body).length c7)) _ x) := Lib.hid (fun x hx => (HD.out x hx).later hB8)
      have HB8 := Lib.hid (below_keep hB8 HBr.out)
      have HX8 : Hid (elB w0 w.heap.size (w7.setCell ⟨wr.heap.size, 4, none⟩ (.slice o7 (bareL s.body).length c7)) _ ⟨.mk s.kind s.name s.refs s.attrs (bareL s.body), .slice ro s.refs.length rc, .slice so s.attrs.length sc, .slice o7 (bareL s.body).length c7⟩) :=
        Lib.hid ⟨w1.heap.size, w7.heap.size, by omega, by rw [hz8]; exact Nat.le_refl _, fun q hq e => by have := (World.ownsRow.lt HOw.out q hq).2; omega, fun W hW0 hW => ⟨HNM.out, HRV.out.keep hW0, HAV.out.keep hW0, HS7.out W hW0 (fun q q1 q2 => by rw [hW q q1 q2]; exact Below.heap_setCell _ _ _ _ (by show q ≠ wr.heap.size; omega))⟩⟩
      have HSZ8 := Lib.hid hz8
      have hsz8 : w.heap.size ≤ w7.heap.size := by omega
      clear hself7 hb7 hk7 hB17 hB8 hz8
      go_wp2_with (at_builtin; refine app_sv rfl (.tmp 23) (.tmp 25) rfl w0 w.heap.size _ D ⟨.mk s.kind s.name s.refs s.attrs (bareL s.body), .slice ro s.refs.length rc, .slice so s.attrs.length sc, .slice o7 (bareL s.body).length c7⟩ w7.heap.size HSZ8.out rfl rfl HO8 HD8 HX8 (by omega) (by rw [HSZ8.out]; exact hsz8) rfl rfl rfl ?_; intro v9 w9 own9 el9 grow9)
      have HB9 := HB8.out.grown grow9 (by rw [HSZ8.out]; exact hsz8) (fun q hq => (World.ownsRow.lt HO8.out q hq).1)
      go_roundw
      case rel => exact ⟨k + 1, _, by go_num, by omega, own9, by rw [List.map_append, HDm.out, HBT.out]; rfl, el9, HB9⟩
      case measure => simp [intOf]; omega
theorem bare_ok (l : List St) : BrOk l := lst_ind bare_step l
end Go.Proofs.YtcdoicgbjoikkaaGreatDoor.nor
