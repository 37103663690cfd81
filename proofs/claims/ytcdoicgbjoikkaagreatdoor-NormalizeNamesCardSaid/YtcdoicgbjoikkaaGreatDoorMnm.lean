/-
  What awake of the statements of layer 12 returns. Condition: the library's variable MaxLen holds a number.
  The walk of the statement NormalizeValid of layer 12. Condition: the library's variable MaxLen holds a number.
  What the statements of layer 12 need of their rows: a world in which the listed variables are laid, that the library's variable MaxLen holds a number, and how a tree and options come in. No condition.
  What the guard few of the statements of layer 12 answers: if it says yes, the tree has fewer than 10^12 statements with few references and attributes. Condition: statements in memory.
  What Options of the reference of layer 12 returns: the walk. Condition: a tree of at most 10^12 statements in memory.
-/
import Derived.Test.YtcdoicgbjoikkaaGreatDoorNorLo
import Derived.Test.YtcdoicgbjoikkaaGreatDoorMcf
import Derived.Test.YtcdoicgbjoikkaaGreatDoorMna
import Derived.Test.YtcdoicgbjoikkaaGreatDoorShelf
import Derived.Test.YtcdoicgbjoikkaaGreatDoorCards
import Derived.Test.YtcdoicgbjoikkaaGreatDoorTie
import Derived.Test.YtcdoicgbjoikkaaGreatDoorRows
import Derived.ProofKit
import Derived.OpenShut
import Derived.ShutString
import Derived.Lib.SmallJoins
import Derived.JoinedCond
import Derived.Deep.DeepHandedRow
import Derived.Lib.LaidTab
import Derived.LaidMore
import Derived.Lay
import Derived.SevenTiedAt
import Derived.Stop.Joined
import Derived.Test.YtcdoicgbjoikkaaGreatDoorMtb
import Derived.Test.YtcdoicgbjoikkaaGreatDoorMnb
namespace Go.Proofs.YtcdoicgbjoikkaaGreatDoor.nor
open Go.RowKit lex tre att

/-- The chapter's example. -/
def exT : Tr := ⟨[103], true, [St.mk 2 [] [([97], []), ([98], [])] [] [], St.mk 5 [99] [] [] [St.mk 1 [97] [] [] [], St.mk 1 [100] [] [] []]]⟩
theorem o_fact : optsT exT = (⟨0, 10000, 20000, 5000, 8⟩, 0) := by decide +kernel
theorem x_facts : (buildC exT).2 = 0 ∧ (buildC exT).1.ns.length = 3 ∧ (buildC exT).1.es.length = 1 ∧ (buildC exT).1.ns[0]?.map (·.cl) = some (-1) ∧ (buildC exT).1.ns[2]?.map (·.cl) = some 0 ∧ (buildC exT).1.ns[2]?.map (·.nm) = some [100] ∧ (buildC exT).1.es[0]?.map (·.to) = some 1 ∧ cnt exT.body = 4 := by
  refine ⟨?_, ?_, ?_, ?_, ?_, ?_, ?_, ?_⟩ <;> decide +kernel
theorem sts_two {w : World} {b : Nat} {s1 s2 : St} (h0 : stAt w s1 ⟨b, 0, none⟩) (h1 : stAt w s2 ⟨b, 5, none⟩) : Sts w (.slice (some ⟨b, 0, none⟩) 2 2) [s1, s2] :=
  ⟨some ⟨b, 0, none⟩, 2, rfl, Nat.le_refl _, by decide, fun _ => ⟨_, rfl, h0, h1, trivial⟩⟩
theorem okL_ex : okL exT.body := by
  unfold okL
  decide +kernel
/-- The world with the example, and what lies in it. -/
def WX (w : World) : World := (((((w.alloc (.cells #[.string ⟨#[97]⟩, .string ⟨#[]⟩] 58)).alloc (.cells #[.string ⟨#[98]⟩, .string ⟨#[]⟩] 58)).alloc (.cells #[.string ⟨#[97]⟩, .string ⟨#[]⟩, .string ⟨#[98]⟩, .string ⟨#[]⟩] 58)).alloc
  (.cells #[.int .i64 1, .string ⟨#[97]⟩, .slice none 0 0, .slice none 0 0, .slice none 0 0, .int .i64 1, .string ⟨#[100]⟩, .slice none 0 0, .slice none 0 0, .slice none 0 0] 56)).alloc
  (.cells #[.int .i64 2, .string ⟨#[]⟩, .slice (some ⟨w.heap.size + 1 + 1, 0, none⟩) 2 2, .slice none 0 0, .slice none 0 0, .int .i64 5, .string ⟨#[99]⟩, .slice none 0 0, .slice none 0 0, .slice (some ⟨w.heap.size + 1 + 1 + 1, 0, none⟩) 2 2] 56)).alloc
  (.cells #[.string ⟨#[103]⟩, .bool true, .slice (some ⟨w.heap.size + 1 + 1 + 1 + 1, 0, none⟩) 2 2] 24)
theorem wx_facts (w : World) : Below w.heap.size w (WX w) ∧ at3 (WX w) (w.heap.size + 1 + 1 + 1 + 1 + 1) ⟨#[103]⟩ true (.slice (some ⟨w.heap.size + 1 + 1 + 1 + 1, 0, none⟩) 2 2) ∧ TrV (WX w) (.agg #[.string ⟨#[103]⟩, .bool true, .slice (some ⟨w.heap.size + 1 + 1 + 1 + 1, 0, none⟩) 2 2]) exT := by
  obtain ⟨A0, h0⟩ : ∃ A, (w.alloc (.cells #[.string ⟨#[97]⟩, .string ⟨#[]⟩] 58)).alloc (.cells #[.string ⟨#[98]⟩, .string ⟨#[]⟩] 58) = A := ⟨_, rfl⟩
  have s0 : A0.heap.size = w.heap.size + 1 + 1 := by rw [← h0, World.size_alloc, World.size_alloc]
  have b0 : Below w.heap.size w A0 := by rw [← h0]; exact al2 ..
  obtain ⟨A1, h1⟩ : ∃ A, A0.alloc (.cells #[.string ⟨#[97]⟩, .string ⟨#[]⟩, .string ⟨#[98]⟩, .string ⟨#[]⟩] 58) = A := ⟨_, rfl⟩
  have s1 : A1.heap.size = w.heap.size + 1 + 1 + 1 := by rw [← h1, World.size_alloc, s0]
  have k1 : Below A0.heap.size A0 A1 := by rw [← h1]; exact al1 ..
  have p1 : Prs A1 (.slice (some ⟨w.heap.size + 1 + 1, 0, none⟩) 2 2) [([97], []), ([98], [])] := by rw [← h1, ← s0]; exact prs_lit A0 [([97], []), ([98], [])] (by decide) (by unfold Bnd; decide) 58
  obtain ⟨A2, h2⟩ : ∃ A, A1.alloc (.cells #[.int .i64 1, .string ⟨#[97]⟩, .slice none 0 0, .slice none 0 0, .slice none 0 0, .int .i64 1, .string ⟨#[100]⟩, .slice none 0 0, .slice none 0 0, .slice none 0 0] 56) = A := ⟨_, rfl⟩
  have s2 : A2.heap.size = w.heap.size + 1 + 1 + 1 + 1 := by rw [← h2, World.size_alloc, s1]
  have k2 : Below A1.heap.size A1 A2 := by rw [← h2]; exact al1 ..
  have q2 : Sts A2 (.slice (some ⟨w.heap.size + 1 + 1 + 1, 0, none⟩) 2 2) [St.mk 1 [97] [] [] [], St.mk 1 [100] [] [] []] := by
    have hbk : blk A2 (w.heap.size + 1 + 1 + 1) 56 #[.int .i64 1, .string ⟨#[97]⟩, .slice none 0 0, .slice none 0 0, .slice none 0 0, .int .i64 1, .string ⟨#[100]⟩, .slice none 0 0, .slice none 0 0, .slice none 0 0] := by rw [← h2, ← s1]; exact blk_new ..
    refine sts_two ((stAt_eq _ _ _).2 ⟨?_, ?_, by decide, ⟨_, ?_, Prs.nil _⟩, ⟨_, ?_, Prs.nil _⟩, _, ?_, Sts.nil _⟩) ((stAt_eq _ _ _).2 ⟨?_, ?_, by decide, ⟨_, ?_, Prs.nil _⟩, ⟨_, ?_, Prs.nil _⟩, _, ?_, Sts.nil _⟩) <;> exact (blk_cell hbk).trans rfl
  obtain ⟨A3, h3⟩ : ∃ A, A2.alloc (.cells #[.int .i64 2, .string ⟨#[]⟩, .slice (some ⟨w.heap.size + 1 + 1, 0, none⟩) 2 2, .slice none 0 0, .slice none 0 0, .int .i64 5, .string ⟨#[99]⟩, .slice none 0 0, .slice none 0 0, .slice (some ⟨w.heap.size + 1 + 1 + 1, 0, none⟩) 2 2] 56) = A := ⟨_, rfl⟩
  have s3 : A3.heap.size = w.heap.size + 1 + 1 + 1 + 1 + 1 := by rw [← h3, World.size_alloc, s2]
  have k3 : Below A2.heap.size A2 A3 := by rw [← h3]; exact al1 ..
  have p3 := (p1.keep k2).keep k3
  have r3 := q2.keep k3
  have q3 : Sts A3 (.slice (some ⟨w.heap.size + 1 + 1 + 1 + 1, 0, none⟩) 2 2) exT.body := by
    have hbk : blk A3 (w.heap.size + 1 + 1 + 1 + 1) 56 #[.int .i64 2, .string ⟨#[]⟩, .slice (some ⟨w.heap.size + 1 + 1, 0, none⟩) 2 2, .slice none 0 0, .slice none 0 0, .int .i64 5, .string ⟨#[99]⟩, .slice none 0 0, .slice none 0 0, .slice (some ⟨w.heap.size + 1 + 1 + 1, 0, none⟩) 2 2] := by rw [← h3, ← s2]; exact blk_new ..
    refine sts_two ((stAt_eq _ _ _).2 ⟨?_, ?_, by decide, ⟨_, ?_, p3⟩, ⟨_, ?_, Prs.nil _⟩, _, ?_, Sts.nil _⟩) ((stAt_eq _ _ _).2 ⟨?_, ?_, by decide, ⟨_, ?_, Prs.nil _⟩, ⟨_, ?_, Prs.nil _⟩, _, ?_, r3⟩) <;> exact (blk_cell hbk).trans rfl
  obtain ⟨A4, h4⟩ : ∃ A, A3.alloc (.cells #[.string ⟨#[103]⟩, .bool true, .slice (some ⟨w.heap.size + 1 + 1 + 1 + 1, 0, none⟩) 2 2] 24) = A := ⟨_, rfl⟩
  have k4 : Below A3.heap.size A3 A4 := by rw [← h4]; exact al1 ..
  have g4 : at3 A4 (w.heap.size + 1 + 1 + 1 + 1 + 1) ⟨#[103]⟩ true (.slice (some ⟨w.heap.size + 1 + 1 + 1 + 1, 0, none⟩) 2 2) := by rw [← h4, ← s3]; exact at3_new ..
  have hW : WX w = A4 := by unfold WX; rw [h0, h1, h2, h3, h4]
  rw [hW]
  exact ⟨below_keep k4 (below_keep k3 (below_keep k2 (below_keep k1 b0))), g4, _, rfl, by decide, q3.keep k4⟩
set_option maxRecDepth 100000 in
set_option maxHeartbeats 4000000 in
theorem awake_of (w : World) (hM : Hid (Mx w)) : Calls Tryz.prog 9 #[] w fun e w' => e = .returned (.bool true) ∧ Below w.heap.size w w' := by
  go_enter Tryz.func9, Tryz.ntmps9
  go_wp2_with fail
  have hwx := wx_facts w
  obtain ⟨W, hW⟩ : ∃ W, WX w = W := ⟨_, rfl⟩
  rw [hW] at hwx
  unfold WX at hW
  rw [hW]
  obtain ⟨hb0, ha0, ht0⟩ := hwx
  have HB0 := Lib.hid hb0
  have HA0 := Lib.hid ha0
  have HT0 := Lib.hid ht0
  have HM0 := mx_keep hM hb0
  obtain ⟨f0, f1, f2, f3, f4, f5, f6, f7⟩ := x_facts
  obtain ⟨G, hG⟩ : ∃ G, (buildC exT).1 = G := ⟨_, rfl⟩
  rw [hG] at f1 f2 f3 f4 f5 f6
  have HBC : Hid (buildC exT = (G, 0)) := Lib.hid (by rw [← hG, ← f0])
  have hcn : cnt exT.body ≤ 2000000000000 := by rw [f7]; decide
  clear hW hb0 ha0 ht0 hG f0 f7
  refine (build_of _ exT G 0 W HM0 HT0 hcn (Lib.hid okL_ex) HBC).mono ?_
  rintro e w1 ⟨gv, rfl, hgv, hb1⟩
  have HB1 := Lib.hid (below_keep hb1 HB0.out)
  have HA1 := Lib.hid (at3_keep HA0.out hb1)
  have HT1 := Lib.hid (HT0.out.keep hb1)
  have HM1 := mx_keep HM0 hb1
  obtain ⟨nv, ev, cv, rfl, -, hns, hes, hcs⟩ := hgv
  obtain ⟨co, cc, rfl, -, -, -⟩ := hcs
  obtain ⟨cn, hcn2⟩ : ∃ n, G.cs.length = n := ⟨_, rfl⟩
  simp only [hcn2]
  clear hcn2
  obtain ⟨no, nc, rfl, -, -, -⟩ := id hns
  obtain ⟨eo, ec, rfl, -, -, -⟩ := id hes
  obtain ⟨A, rfl, n0⟩ := hns.get (k := 0) (by omega)
  obtain ⟨A', e', n2⟩ := hns.get (k := 2) (by omega)
  cases e'
  obtain ⟨C, rfl, e0⟩ := hes.get (k := 0) (by omega)
  rw [List.getElem?_eq_getElem (by omega)] at f3 f4 f5 f6
  simp only [Option.map_some, Option.some.injEq] at f3 f4 f5 f6
  obtain ⟨-, -, -, -, c0, -, -⟩ := n0
  obtain ⟨m2, -, -, -, c2, -, -⟩ := n2
  obtain ⟨-, t0, -⟩ := e0
  rw [f3] at c0
  rw [f4] at c2
  rw [f5] at m2
  rw [f6] at t0
  rw [f1, f2]
  clear hb1 hns hes f3 f4 f5 f6 HA0 HT0 HB0 HM0 hM
  have hal := al1 w1 (.cells #[.string (bb G.nm), .bool G.dir, .slice (some A) 3 nc, .slice (some C) 1 ec, .slice co cn cc] 31)
  have HGA := Lib.hid (gra.gat_new w1 (bb G.nm) G.dir (.slice (some A) 3 nc) (.slice (some C) 1 ec) (.slice co cn cc) 31)
  have HB2 := Lib.hid (below_keep hal HB1.out)
  have HA2 := Lib.hid (at3_keep HA1.out hal)
  have HT2 := Lib.hid (HT1.out.keep hal)
  have HM2 := mx_keep HM1 hal
  have HC := Lib.hid (And.intro (cell_keep hal c0) (And.intro (cell_keep hal c2) (And.intro (cell_later' hal m2) (cell_keep hal t0))))
  obtain ⟨a0, a1, a2⟩ := HA2.out
  clear hal c0 c2 m2 t0
  go_wp2_with fail
  generalize w1.alloc (.cells #[.string (bb G.nm), .bool G.dir, .slice (some A) 3 nc, .slice (some C) 1 ec, .slice co cn cc] 31) = w2 at *
  clear a0 a1 a2
  refine (opts_of _ exT ⟨0, 10000, 20000, 5000, 8⟩ 0 w2 HM2 HT2 hcn (Lib.hid o_fact)).mono ?_
  rintro e w3 ⟨he, hb3⟩
  have he2 : e = .returned (.tuple #[.agg #[.int .i64 0, .int .i64 10000, .int .i64 20000, .int .i64 5000, .int .i64 8], .int .i64 0]) := he
  subst he2
  have hal := al1 w3 (.cells #[.int .i64 0, .int .i64 10000, .int .i64 20000, .int .i64 5000, .int .i64 8] 38)
  have hq := below_keep hal hb3
  have HBF := Lib.hid (below_keep hq HB2.out)
  obtain ⟨g0, g1, g2, g3, g4⟩ := gra.gat_keep HGA.out hq
  obtain ⟨y0, y2, ym, yt⟩ := HC.out
  have c0 : (w3.alloc (.cells #[.int .i64 0, .int .i64 10000, .int .i64 20000, .int .i64 5000, .int .i64 8] 38)).cell? ⟨A.block, A.off + 4, none⟩ = some (.int .i64 (-1)) := cell_keep hq y0
  have c2 : (w3.alloc (.cells #[.int .i64 0, .int .i64 10000, .int .i64 20000, .int .i64 5000, .int .i64 8] 38)).cell? ⟨A.block, A.off + 12 + 4, none⟩ = some (.int .i64 0) := cell_keep hq y2
  have c3 : (w3.alloc (.cells #[.int .i64 0, .int .i64 10000, .int .i64 20000, .int .i64 5000, .int .i64 8] 38)).cell? ⟨A.block, A.off + 16, none⟩ = some (.int .i64 0) := c2
  have m2 : (w3.alloc (.cells #[.int .i64 0, .int .i64 10000, .int .i64 20000, .int .i64 5000, .int .i64 8] 38)).cell? (A.add 12) = some (.string ⟨#[100]⟩) := cell_later' hq ym
  have m3 : (w3.alloc (.cells #[.int .i64 0, .int .i64 10000, .int .i64 20000, .int .i64 5000, .int .i64 8] 38)).cell? ⟨A.block, A.off + 12, none⟩ = some (.string ⟨#[100]⟩) := by
    first | exact m2 | (have h := m2; simp only [World.cell?, Addr.add] at h ⊢; exact h) | (rw [← m2]; rfl)
  have t0 : (w3.alloc (.cells #[.int .i64 0, .int .i64 10000, .int .i64 20000, .int .i64 5000, .int .i64 8] 38)).cell? ⟨C.block, C.off + 1, none⟩ = some (.int .i64 1) := cell_keep hq yt
  clear y0 y2 ym yt
  obtain ⟨o0, o1, o2, o3, o4⟩ := at5_new w3 ⟨0, 10000, 20000, 5000, 8⟩ 38
  simp only at o0 o1 o2 o3 o4
  have heq := eql_op ⟨0, 10000, 20000, 5000, 8⟩ ⟨0, 10000, 20000, 5000, 8⟩ true (Lib.hid (by decide))
  have hgo := guard_op
  simp only at heq
  clear he hb3 hal hq HC HGA HB1 HB2 HA1 HA2 HT1 HT2 HM1 HM2
  go_wp2_with fail
  go_wp2
  go_ret
  exact ⟨rfl, HBF.out⟩
end Go.Proofs.YtcdoicgbjoikkaaGreatDoor.nor
namespace Go.Proofs.YtcdoicgbjoikkaaGreatDoor.nor
open Go.RowKit lex tre att

set_option maxRecDepth 100000 in
set_option maxHeartbeats 2000000 in
theorem wvalid (o : Op') (w : World) (hM : Hid (Mx w)) :
    Calls Tryz.prog 5 #[opV o] w fun e w' => e = .returned (.bool true) ∧ Below w.heap.size w w' := by
  obtain ⟨b, hb⟩ : ∃ b, okO o = b := ⟨_, rfl⟩
  have H := Lib.hid hb
  clear hb
  have hb1 := Lib.hid (al1 w (.cells #[.int .i64 o.mode, .int .i64 o.ns, .int .i64 o.rs, .int .i64 o.mg, .int .i64 o.rd] 38))
  have HM1 := mx_keep hM hb1.out
  have h5 := at5_new w o 38
  show Calls Tryz.prog 5 #[.agg #[.int .i64 o.mode, .int .i64 o.ns, .int .i64 o.rs, .int .i64 o.mg, .int .i64 o.rd]] w _
  go_enter Tryz.func5, Tryz.ntmps5
  go_wp2_with fail
  generalize w.alloc (.cells #[.int .i64 o.mode, .int .i64 o.ns, .int .i64 o.rs, .int .i64 o.mg, .int .i64 o.rd] 38) = w1 at *
  have hP0 : (Below w1.heap.size w1 w1 ∧ at5 w1 w.heap.size o) := ⟨Below.refl _ _, h5⟩
  have C1 : ∀ w2, (Below w1.heap.size w1 w2 ∧ at5 w2 w.heap.size o) → Calls Tryz.prog 15 #[.agg #[.int .i64 o.mode, .int .i64 o.ns, .int .i64 o.rs, .int .i64 o.mg, .int .i64 o.rd]] w2 fun e w' => e = .returned (.bool b) ∧ (Below w1.heap.size w1 w' ∧ at5 w' w.heap.size o) := fun w2 h2 =>
    (valido_of o b w2 H).mono fun e w' h => ⟨h.1, below_keep h.2 h2.1, cell_later' h.2 h2.2.1, cell_later' h.2 h2.2.2.1, cell_later' h.2 h2.2.2.2.1, cell_later' h.2 h2.2.2.2.2.1, cell_later' h.2 h2.2.2.2.2.2⟩
  have C2 : ∀ w2, (Below w1.heap.size w1 w2 ∧ at5 w2 w.heap.size o) → Calls Tryz.prog 16 #[.agg #[.int .i64 o.mode, .int .i64 o.ns, .int .i64 o.rs, .int .i64 o.mg, .int .i64 o.rd]] w2 fun e w' => e = .returned (.bool b) ∧ (Below w1.heap.size w1 w' ∧ at5 w' w.heap.size o) := fun w2 h2 =>
    (rvalido_of o b w2 H).mono fun e w' h => ⟨h.1, below_keep h.2 h2.1, cell_later' h.2 h2.2.1, cell_later' h.2 h2.2.2.1, cell_later' h.2 h2.2.2.2.1, cell_later' h.2 h2.2.2.2.2.1, cell_later' h.2 h2.2.2.2.2.2⟩
  have C3 : ∀ w2, (Below w1.heap.size w1 w2 ∧ at5 w2 w.heap.size o) → Calls Tryz.prog 9 #[] w2 fun e w' => e = .returned (.bool true) ∧ (Below w1.heap.size w1 w' ∧ at5 w' w.heap.size o) := fun w2 h2 =>
    (awake_of w2 (mx_keep HM1 h2.1)).mono fun e w' h => ⟨h.1, below_keep h.2 h2.1, cell_later' h.2 h2.2.1, cell_later' h.2 h2.2.2.1, cell_later' h.2 h2.2.2.2.1, cell_later' h.2 h2.2.2.2.2.1, cell_later' h.2 h2.2.2.2.2.2⟩
  have HC1 := Lib.hid C1
  have HC2 := Lib.hid C2
  have HC3 := Lib.hid C3
  have hbb : (b == b) = true := by simp
  clear C1 C2 C3 h5
  go_region_held3 (fun w' => Below w1.heap.size w1 w' ∧ at5 w' w.heap.size o)
    (repeat (first | assumption | (with_reducible refine o_drew ?_) | (with_reducible refine o_alloc ?_)))
    (first
    | (go_at_call 15; refine (HC1.out _ (by assumption)).mono ?_; rintro e w6 ⟨rfl, hP⟩)
    | (go_at_call 16; refine (HC2.out _ (by assumption)).mono ?_; rintro e w6 ⟨rfl, hP⟩)
    | (go_at_call 9; refine (HC3.out _ (by assumption)).mono ?_; rintro e w6 ⟨rfl, hP⟩))
  all_goals
    go_wp2
    go_ret
    exact ⟨rfl, below_keep hP.1 hb1.out⟩
end Go.Proofs.YtcdoicgbjoikkaaGreatDoor.nor
namespace Go.Proofs.YtcdoicgbjoikkaaGreatDoor.nor
open Go.ChangeShapes Go.WideShapes Go.ChangeAt Go.RowKit Go.Joins lex tre att

/-- The list of every row of this seat. -/
def laidS : List (String × DataW Unit) := Rows.normalizeBuildsRow.laid
theorem mx_of {W : World} (h : W.ShapedOpen Tryz.prog) : Mx W := Tryz.laysM143.s1_3 W h
theorem arr5 {cs : Array Value} (h : cs.size = 5) : ∃ a b c d e, cs = #[a, b, c, d, e] := by
  obtain ⟨l⟩ := cs
  match l, h with
  | [a, b, c, d, e], _ => exact ⟨a, b, c, d, e, rfl⟩
section
variable {H : Type} {enc : TypeId × Value → H} {w : World} {base : Nat} {spare : Nat → Bool} {held : Bool}
set_option maxRecDepth 100000 in
theorem open_options {r : Reach} {b0 : Nat} {v : Value} {d : DataW H} {p : List MemPlace} (hv : Value.okWide Tryz.prog w r b0 38 v) (h : DataW.Trod enc Tryz.prog w base spare held 38 v d p) : ∃ o, v = opV o := by
  obtain ⟨cs, rfl, hsz⟩ := okWide_struct Tryz.underlying38 hv
  obtain ⟨fuel, hf⟩ := h
  obtain ⟨y0, y1, y2, y3, y4, n, _, hl, k0, k1, k2, k3, k4⟩ := trod_struct5 Tryz.underlying38 hf
  have hc5 : Tryz.prog.cellsOf 38 = 5 := by kernel_rfl
  obtain ⟨c0, c1, c2, c3, c4, rfl⟩ := arr5 (hsz.trans hc5)
  have hci : Tryz.prog.cellsOf 3 = 1 := by kernel_rfl
  simp [Value.cells, hci] at k0 k1 k2 k3 k4
  obtain ⟨x0, e0, _⟩ := DataW.trod_int Tryz.underlying3 k0
  obtain ⟨x1, e1, _⟩ := DataW.trod_int Tryz.underlying3 k1
  obtain ⟨x2, e2, _⟩ := DataW.trod_int Tryz.underlying3 k2
  obtain ⟨x3, e3, _⟩ := DataW.trod_int Tryz.underlying3 k3
  obtain ⟨x4, e4, _⟩ := DataW.trod_int Tryz.underlying3 k4
  simp at e0 e1 e2 e3 e4
  subst e0 e1 e2 e3 e4
  exact ⟨⟨x0, x1, x2, x3, x4⟩, rfl⟩
end
end Go.Proofs.YtcdoicgbjoikkaaGreatDoor.nor
namespace Go.Proofs.YtcdoicgbjoikkaaGreatDoor.nor
open Go.RowKit lex tre

/-- So many statements at most, with so many levels left. -/
def fewN : Nat → Nat
  | 0 => 0
  | k + 1 => 20 * (1 + fewN k)
def FewOut (l : List St) (k : Nat) (w : World) (e : Ending) (w' : World) : Prop := ∃ b, e = .returned (.bool b) ∧ (b = true → cnt l ≤ fewN k ∧ okL l) ∧ w' = w
def FewOk (l : List St) : Prop := ∀ (w : World) (v : Value) (k : Nat) (d : Int), k ≤ 9 → d = 9 - (k : Int) → Sts w v l → Calls Tryz.prog 8 #[v, .int .i64 d] w (FewOut l k w)
theorem ok_snoc {l : List St} {s : St} (h : okL l) (h1 : s.refs.length ≤ 40) (h2 : s.attrs.length ≤ 40) (hb : okL s.body) : okL (l ++ [s]) := by
  intro x hx
  rw [preL_app] at hx
  rcases List.mem_append.1 hx with hx | hx
  · exact h x hx
  · exact okL_cons.2 ⟨⟨h1, h2⟩, hb, fun y hy => by cases hy⟩ x hx
theorem cnt_snoc (l : List St) (s : St) : cnt (l ++ [s]) = cnt l + 1 + cnt s.body := by
  unfold cnt
  rw [preL_app, List.length_append, preL_cons, preL_nil, List.append_nil, preS_eq, List.length_cons, pre_len.2 s.body _ 0]
  omega
set_option maxRecDepth 100000 in
set_option maxHeartbeats 8000000 in
theorem few_step (l : List St) (ih : ∀ s ∈ l, FewOk s.body) : FewOk l := by
  intro w v q d hq hd hs
  have hs' := hs
  obtain ⟨ao, cap, rfl, hc, hm, _⟩ := hs'
  have HS := Lib.hid hs
  have IH := Lib.hid ih
  unfold maxLen at hm
  have hlm : l.length ≤ 9223372036854775807 := by omega
  clear hs ih hc hm
  by_cases g1 : (20 : Int) < (l.length : Int)
  · have d1 : decide ((20 : Int) < (l.length : Int)) = true := decide_eq_true g1
    have d1' : decide (20 < l.length) = true := decide_eq_true (by omega)
    clear hd
    go_enter Tryz.func8, Tryz.ntmps8
    go_wp2
    go_ret
    exact ⟨false, rfl, (fun h => by cases h), rfl⟩
  have d1 : decide ((20 : Int) < (l.length : Int)) = false := decide_eq_false g1
  have d1' : decide (20 < l.length) = false := decide_eq_false (by omega)
  by_cases g2 : (8 : Int) < d
  · have d2 : decide ((8 : Int) < d) = true := decide_eq_true g2
    clear hd
    go_enter Tryz.func8, Tryz.ntmps8
    go_wp2
    go_ret
    exact ⟨false, rfl, (fun h => by cases h), rfl⟩
  have d2 : decide ((8 : Int) < d) = false := decide_eq_false g2
  obtain ⟨p, rfl⟩ : ∃ p, q = p + 1 := ⟨q - 1, by omega⟩
  have HD : Hid (d + 1 = 9 - (p : Int)) := Lib.hid (by omega)
  have hd0 : 0 ≤ d := by omega
  have hd9 : d ≤ 9 := by omega
  have hp9 : p ≤ 9 := by omega
  have hl20 : l.length ≤ 20 := by omega
  clear hd hq
  go_enter Tryz.func8, Tryz.ntmps8
  go_wp2_with fail
  go_loop [5] (fun iv => ∃ k : Nat, iv = .int .i64 k ∧ k ≤ l.length ∧ cnt (l.take k) ≤ k * (1 + fewN p) ∧ okL (l.take k)) (fun iv => l.length - (intOf iv).toNat)
  case atStart => exact ⟨0, rfl, Nat.zero_le _, by rw [List.take_zero, cnt_nil]; omega, fun x hx => by rw [List.take_zero] at hx; cases hx⟩
  case round =>
    obtain ⟨k, rfl, hk, hcn, hok⟩ := hrel
    have HCN := Lib.hid hcn
    have HOK := Lib.hid hok
    clear hcn hok
    by_cases hlt : k < l.length
    · obtain ⟨A, rfl, hst⟩ := HS.out.get hlt
      obtain ⟨_, _, _, ⟨rv, c2, hrv⟩, ⟨av, c3, hav⟩, bv, c4, hbv⟩ := (stAt_eq _ _ _).1 hst
      obtain ⟨ro, rc, rfl, _, _, _⟩ := hrv
      obtain ⟨so, sc, rfl, _, _, _⟩ := hav
      have hb := IH.out l[k] (List.getElem_mem hlt)
      have htk := (tre.cnt_take hlt).2
      obtain ⟨s, hse⟩ : ∃ s, l[k] = s := ⟨_, rfl⟩
      rw [hse] at c2 c3 hbv hb htk
      have HBC := Lib.hid (hb w bv p (d + 1) hp9 HD.out hbv)
      have HTK := Lib.hid htk
      have z0 : (0 : Int) ≤ (k : Int) := by omega
      have z1 : (k : Int) < (l.length : Int) := by omega
      clear hst hbv hb hse htk
      by_cases r1 : (10 : Int) < (s.refs.length : Int)
      · have e1 : decide ((10 : Int) < (s.refs.length : Int)) = true := decide_eq_true r1
        have e1' : decide (10 < s.refs.length) = true := decide_eq_true (by omega)
        go_wp2
        go_ret
        exact ⟨false, rfl, (fun h => by cases h), rfl⟩
      have e1 : decide ((10 : Int) < (s.refs.length : Int)) = false := decide_eq_false r1
      have e1' : decide (10 < s.refs.length) = false := decide_eq_false (by omega)
      by_cases r2 : (20 : Int) < (s.attrs.length : Int)
      · have e2 : decide ((20 : Int) < (s.attrs.length : Int)) = true := decide_eq_true r2
        have e2' : decide (20 < s.attrs.length) = true := decide_eq_true (by omega)
        go_wp2
        go_ret
        exact ⟨false, rfl, (fun h => by cases h), rfl⟩
      have e2 : decide ((20 : Int) < (s.attrs.length : Int)) = false := decide_eq_false r2
      have e2' : decide (20 < s.attrs.length) = false := decide_eq_false (by omega)
      have hz1 : s.refs.length ≤ 40 := by omega
      have hz2 : s.attrs.length ≤ 40 := by omega
      go_wp2_with fail
      refine HBC.out.mono ?_
      rintro e w2 ⟨b, rfl, hb, rfl⟩
      have HB := Lib.hid hb
      clear hb
      cases b
      · go_wp2
        go_ret
        exact ⟨false, rfl, (fun h => by cases h), rfl⟩
      · obtain ⟨hb1, hb2⟩ := HB.out rfl
        have HN : Hid (cnt (l.take (k + 1)) ≤ (k + 1) * (1 + fewN p) ∧ okL (l.take (k + 1))) := Lib.hid ⟨by rw [HTK.out, cnt_snoc, Nat.add_mul, Nat.one_mul]; have := HCN.out; omega, by rw [HTK.out]; exact ok_snoc HOK.out hz1 hz2 hb2⟩
        clear hb1 hb2
        go_wp2
        go_round
        case rel => exact ⟨k + 1, by go_num, by omega, HN.out.1, HN.out.2⟩
        case measure => simp [intOf]; omega
    · obtain rfl : k = l.length := by omega
      go_wp2
      go_ret
      refine ⟨true, rfl, (fun _ => ?_), rfl⟩
      have h1 := HCN.out
      have h2 := HOK.out
      rw [List.take_length] at h1 h2
      refine ⟨?_, h2⟩
      show cnt l ≤ 20 * (1 + fewN p)
      exact Nat.le_trans h1 (Nat.mul_le_mul_right _ hl20)
theorem few_of (l : List St) : FewOk l := lst_ind few_step l
theorem few_bound : fewN 9 ≤ 1000000000000 := by decide
end Go.Proofs.YtcdoicgbjoikkaaGreatDoor.nor
namespace Go.Proofs.YtcdoicgbjoikkaaGreatDoor.nor
open Go.RowKit lex tre att

set_option maxRecDepth 100000 in
set_option maxHeartbeats 4000000 in
theorem ropts_of (v : Value) (T : Tr) (o : Op') (E : Int) (w : World) (hT : Hid (TrV w v T)) (hc : cnt T.body ≤ 1000000000000) (hr : Hid (optsT T = (o, E))) :
    Calls Tryz.prog 14 #[v] w fun e w' => e = .returned (.tuple #[opV o, .int .i64 E]) ∧ Below w.heap.size w w' := by
  have htv := hT.out
  obtain ⟨bv, rfl, hnl, hs⟩ := hT.out
  obtain ⟨bo, bc, rfl, -, -, -⟩ := id hs
  have hfe := hr.out
  unfold optsT at hfe
  obtain ⟨X, hX⟩ : ∃ X, bb T.name = X := ⟨_, rfl⟩
  obtain ⟨W1, hW1⟩ : ∃ W1, w.alloc (.cells #[.string X, .bool T.dir, .slice bo T.body.length bc] 24) = W1 := ⟨_, rfl⟩
  obtain ⟨W2, hW2⟩ : ∃ W2, W1.alloc (.cells #[.int .i64 0, .int .i64 0, .int .i64 0, .int .i64 0, .int .i64 0] 38) = W2 := ⟨_, rfl⟩
  have s1 : W1.heap.size = w.heap.size + 1 := by rw [← hW1]; simp
  have hB : Below w.heap.size w W2 := by rw [← hW2, ← hW1]; exact al2 ..
  have hA3 : at3 W2 w.heap.size X T.dir (.slice bo T.body.length bc) := by rw [← hW2, ← hW1]; exact at3_keep (at3_new ..) (al1 ..)
  have hO : obx W2 (w.heap.size + 1) 0 0 0 0 0 := by rw [← hW2, ← s1]; exact obx_new ..
  rw [hX] at htv
  have HB := Lib.hid hB
  have HA := Lib.hid hA3
  have HO := Lib.hid hO
  have HTV := Lib.hid (htv.keep hB)
  have HW1 := Lib.hid hW1
  have HW2 := Lib.hid hW2
  have HS := Lib.hid hs
  rw [hX]
  obtain ⟨V, hV⟩ : ∃ V, validT T = V := ⟨_, rfl⟩
  have HV := Lib.hid hV
  rw [hV] at hfe
  have HF := Lib.hid hfe
  clear hB hA3 hO hW1 hW2 s1 htv hX hV hfe hs hnl hT hr
  go_enter Tryz.func14, Tryz.ntmps14
  go_wp2_with fail
  rw [HW1.out, HW2.out]
  obtain ⟨a0, a1, a2⟩ := HA.out
  go_wp2_with fail
  refine (rvalid_huge _ T V _ HTV hc HV).mono ?_
  rintro e w3 ⟨rfl, hb3⟩
  have HB3 := Lib.hid (below_keep hb3 HB.out)
  have HA3 := Lib.hid (at3_keep HA.out hb3)
  have HO3 := Lib.hid (obx_keep HO.out hb3)
  clear hb3 a0 a1 a2 HTV HA HO
  by_cases v0 : V = 0
  case neg =>
    have z0 : (V != 0) = true := by rw [bne_iff_ne]; exact v0
    have hfe := HF.out
    rw [if_pos v0] at hfe
    obtain ⟨rfl, rfl⟩ := Prod.mk.inj hfe
    obtain ⟨o0, o1, o2, o3, o4, f0, f1, f2, f3, f4⟩ := HO3.out
    clear v0 hfe HF
    go_wp2
    have r0 : (w3.setCell ⟨w.heap.size + 1, 0, none⟩ (.int .i64 0)).cell? ⟨w.heap.size + 1, 0, none⟩ = some (.int .i64 0) := by go_simp
    have r1 : ((w3.setCell ⟨w.heap.size + 1, 0, none⟩ (.int .i64 0)).setCell ⟨w.heap.size + 1, 1, none⟩ (.int .i64 0)).cell? ⟨w.heap.size + 1, 1, none⟩ = some (.int .i64 0) := by go_simp
    have r2 : (((w3.setCell ⟨w.heap.size + 1, 0, none⟩ (.int .i64 0)).setCell ⟨w.heap.size + 1, 1, none⟩ (.int .i64 0)).setCell ⟨w.heap.size + 1, 2, none⟩ (.int .i64 0)).cell? ⟨w.heap.size + 1, 2, none⟩ = some (.int .i64 0) := by go_simp
    have r3 : ((((w3.setCell ⟨w.heap.size + 1, 0, none⟩ (.int .i64 0)).setCell ⟨w.heap.size + 1, 1, none⟩ (.int .i64 0)).setCell ⟨w.heap.size + 1, 2, none⟩ (.int .i64 0)).setCell ⟨w.heap.size + 1, 3, none⟩ (.int .i64 0)).cell? ⟨w.heap.size + 1, 3, none⟩ = some (.int .i64 0) := by go_simp
    have r4 : (((((w3.setCell ⟨w.heap.size + 1, 0, none⟩ (.int .i64 0)).setCell ⟨w.heap.size + 1, 1, none⟩ (.int .i64 0)).setCell ⟨w.heap.size + 1, 2, none⟩ (.int .i64 0)).setCell ⟨w.heap.size + 1, 3, none⟩ (.int .i64 0)).setCell ⟨w.heap.size + 1, 4, none⟩ (.int .i64 0)).cell? ⟨w.heap.size + 1, 4, none⟩ = some (.int .i64 0) := by go_simp
    exact bodyPost_ret (v := .tuple #[.agg #[.int .i64 0, .int .i64 0, .int .i64 0, .int .i64 0, .int .i64 0], .int .i64 V]) (by simp [results, Tryz.results14, go_sem, r0, r1, r2, r3, r4]) rfl ⟨by rw [show opV ⟨0, 0, 0, 0, 0⟩ = _ from rfl]; rfl, ((((HB3.out.setCell (by simp) _).setCell (by simp) _).setCell (by simp) _).setCell (by simp) _).setCell (by simp) _⟩
  have z0 : (V != 0) = false := by rw [v0]; rfl
  have hval := HV.out.trans v0
  have hvi := (valid_iff T).1 hval
  obtain ⟨L, hL⟩ : ∃ L, setL (preL T.body 0) = L := ⟨_, rfl⟩
  have hLb := setL_ok hvi.2.2
  have hLl := optL_len.2 T.body 0
  rw [hL] at hLb hLl
  have hfe := HF.out
  rw [if_neg (by simp [v0]), hL] at hfe
  have hLn : L.length ≤ 512 := by have := hvi.2.1; unfold cnt at this; omega
  have HLB := Lib.hid hLb
  have HHS : Hid (SetHas T.body) := Lib.hid (fun x hx h4 => (sta_attrs (hvi.2.2 x hx)).2.2.1 h4)
  have HOL : Hid (([] : List Pr) ++ optL T.body = L) := Lib.hid (by rw [List.nil_append]; exact hL)
  have HF2 := Lib.hid hfe
  have HCN : Hid (([] : List Pr).length + cnt T.body ≤ 100000) := Lib.hid (by have := hvi.2.1; simp; omega)
  obtain ⟨a0, a1, a2⟩ := HA3.out
  clear hval hvi hL hLb hLl hfe HF v0 HV
  go_wp2_with fail
  have hnil : w3.ownsRow w3.heap.size 82 2 (.slice none 0 0) 0 [] := ⟨by simp, .inl ⟨rfl, rfl⟩⟩
  refine (SetOk.use (l := T.body) (Lib.hid (set_ok T.body)) w3 w3 (.slice bo T.body.length bc) none 0 [] L (Lib.hid (Below.refl _ _)) (Lib.hid (HS.out.keep HB3.out)) (Lib.hid hnil) HHS HCN HOL).mono ?_
  rintro e w4 ⟨lo, lc, rfl, hrow, hb4'⟩
  have HB4 := Lib.hid (below_keep hb4' HB3.out)
  have HO4 := Lib.hid (obx_keep HO3.out hb4')
  have HPL : Hid (Prs w4 (.slice lo L.length lc) L) := Lib.hid (own_prs hrow (fun r hr => by have := HLB.out r hr; unfold maxLen; omega))
  obtain ⟨FC, hFC⟩ : ∃ FC, firC 4 L = FC := ⟨_, rfl⟩
  have hF3 := HF2.out
  rw [hFC] at hF3
  have HF3 := Lib.hid hF3
  have HFC : Hid (firC 4 (L.drop 0) = FC) := Lib.hid hFC
  have HBL : Hid (Bnd L) := Lib.hid (fun r hr => by have := HLB.out r hr; unfold maxLen; omega)
  clear a0 a1 a2 hrow hb4' hnil hFC hF3 HF2 HOL HCN HHS HO3 z0
  go_wp2_with fail
  go_loopw [6, 7] (fun ov iv wr => ∃ i : Nat, iv = .int .i64 i ∧ i ≤ L.length ∧ Prs wr ov (ownK L i) ∧ firC 4 (L.drop i) = FC ∧ Below w4.heap.size w4 wr) (fun _ iv _ => L.length - (intOf iv).toNat)
  case atStart => exact ⟨0, rfl, Nat.zero_le _, by simpa [ownK] using Prs.nil w4, HFC.out, Below.refl _ _⟩
  case round =>
    obtain ⟨i, rfl, hi, hown, hfc, hB⟩ := hrel
    rename World => wr
    have HBw := Lib.hid (below_keep hB HB4.out)
    have HOw := Lib.hid (obx_keep HO4.out hB)
    have HPw := Lib.hid (HPL.out.keep hB)
    have HBo := Lib.hid hB
    have HOWN := Lib.hid hown
    clear hB hown HFC
    by_cases hlt : i < L.length
    · have hget := HPw.out.get hlt
      have hbl := HBL.out L[i] (List.getElem_mem hlt)
      have hbl2 := HLB.out L[i] (List.getElem_mem hlt)
      have hok := ownK_ok L i hi
      have hst := ownK_step hlt
      rw [firC_drop hlt] at hfc
      obtain ⟨a, ha⟩ : ∃ a, L[i] = a := ⟨_, rfl⟩
      rw [ha] at hget hbl hbl2 hst hfc
      obtain ⟨A, rfl, hpr⟩ := hget
      unfold prAt at hpr
      obtain ⟨q0, q1, -⟩ := hpr
      obtain ⟨e1, he1⟩ : ∃ e1, checkL 4 a = e1 := ⟨_, rfl⟩
      rw [he1] at hfc
      have HCK := Lib.hid he1
      have HFI := Lib.hid hfc
      have HST := Lib.hid hst
      have HBB := Lib.hid hbl
      have HON : Hid (Bnd (ownK L i)) := Lib.hid (fun r hr => HBL.out r (hok.2 r hr))
      have hol : (ownK L i).length ≤ 20000 := by have := hok.1; omega
      have i0 : (0 : Int) ≤ (i : Int) := by omega
      have i1 : (i : Int) < (L.length : Int) := by omega
      have ha2 : a.2.length ≤ 20000 := by omega
      clear hbl hbl2 hst hfc ha he1 hok
      go_wp2_with fail
      refine (rcheck_of 4 a e1 wr ha2 HCK).mono ?_
      rintro e w5 ⟨rfl, hb5⟩
      have HB5 := Lib.hid (below_keep hb5 HBw.out)
      have HO5 := Lib.hid (obx_keep HOw.out hb5)
      have HOWN5 := Lib.hid (HOWN.out.keep hb5)
      have HBo5 := Lib.hid (below_keep hb5 HBo.out)
      have q05 := cell_later' hb5 q0
      have q15 := cell_later' hb5 q1
      clear hb5 q0 q1
      by_cases h1 : e1 = 0
      case neg =>
        have z1 : (e1 != 0) = true := by rw [bne_iff_ne]; exact h1
        have hf := HFI.out
        rw [if_pos h1] at hf
        have hF := HF3.out
        rw [← hf, if_pos h1] at hF
        obtain ⟨rfl, rfl⟩ := Prod.mk.inj hF
        obtain ⟨o0, o1, o2, o3, o4, f0, f1, f2, f3, f4⟩ := HO5.out
        clear h1 hf hF HF3 q05 q15
        go_wp2
        have r0 : (w5.setCell ⟨w.heap.size + 1, 0, none⟩ (.int .i64 0)).cell? ⟨w.heap.size + 1, 0, none⟩ = some (.int .i64 0) := by go_simp
        have r1 : ((w5.setCell ⟨w.heap.size + 1, 0, none⟩ (.int .i64 0)).setCell ⟨w.heap.size + 1, 1, none⟩ (.int .i64 0)).cell? ⟨w.heap.size + 1, 1, none⟩ = some (.int .i64 0) := by go_simp
        have r2 : (((w5.setCell ⟨w.heap.size + 1, 0, none⟩ (.int .i64 0)).setCell ⟨w.heap.size + 1, 1, none⟩ (.int .i64 0)).setCell ⟨w.heap.size + 1, 2, none⟩ (.int .i64 0)).cell? ⟨w.heap.size + 1, 2, none⟩ = some (.int .i64 0) := by go_simp
        have r3 : ((((w5.setCell ⟨w.heap.size + 1, 0, none⟩ (.int .i64 0)).setCell ⟨w.heap.size + 1, 1, none⟩ (.int .i64 0)).setCell ⟨w.heap.size + 1, 2, none⟩ (.int .i64 0)).setCell ⟨w.heap.size + 1, 3, none⟩ (.int .i64 0)).cell? ⟨w.heap.size + 1, 3, none⟩ = some (.int .i64 0) := by go_simp
        have r4 : (((((w5.setCell ⟨w.heap.size + 1, 0, none⟩ (.int .i64 0)).setCell ⟨w.heap.size + 1, 1, none⟩ (.int .i64 0)).setCell ⟨w.heap.size + 1, 2, none⟩ (.int .i64 0)).setCell ⟨w.heap.size + 1, 3, none⟩ (.int .i64 0)).setCell ⟨w.heap.size + 1, 4, none⟩ (.int .i64 0)).cell? ⟨w.heap.size + 1, 4, none⟩ = some (.int .i64 0) := by go_simp
        exact bodyPost_ret (v := .tuple #[.agg #[.int .i64 0, .int .i64 0, .int .i64 0, .int .i64 0, .int .i64 0], .int .i64 e1]) (by simp [results, Tryz.results14, go_sem, r0, r1, r2, r3, r4]) rfl ⟨by rw [show opV ⟨0, 0, 0, 0, 0⟩ = _ from rfl]; rfl, ((((HB5.out.setCell (by simp) _).setCell (by simp) _).setCell (by simp) _).setCell (by simp) _).setCell (by simp) _⟩
      subst h1
      have hf := HFI.out
      simp only [ne_eq, not_true_eq_false, if_false] at hf
      have HFN := Lib.hid hf
      have HP1 := Lib.hid (prs_one w5 a HBB.out 82)
      have HOWN6 : Hid (Prs (w5.alloc (.cells #[.string (bb a.1), .string (bb a.2)] 82)) _ (ownK L i)) := Lib.hid (HOWN5.out.keep (al1 ..))
      have HB6 := Lib.hid (below_keep (al1 w5 (.cells #[.string (bb a.1), .string (bb a.2)] 82)) HBo5.out)
      clear hf
      go_wp2_with fail
      refine (rmerge_of _ _ (ownK L i) [a] _ HOWN6 HP1 hol (by simp) HON (Lib.hid (fun r hr => by simp only [List.mem_cons, List.not_mem_nil, or_false] at hr; subst hr; exact HBB.out))).mono ?_
      rintro e w7 ⟨v7, rfl, hp7, hb7⟩
      have HP7 : Hid (Prs w7 v7 (ownK L (i + 1))) := Lib.hid (by rw [HST.out]; exact hp7)
      have HB7 := Lib.hid (below_keep hb7 HB6.out)
      clear hp7 hb7 q05 q15
      go_wp2
      go_roundw
      case rel => exact ⟨i + 1, by go_num, by omega, HP7.out, HFN.out, HB7.out⟩
      case measure => simp [intOf]; omega
    · obtain rfl : i = L.length := by omega
      rw [List.drop_length] at hfc
      have hF := HF3.out
      rw [← hfc, if_neg (by show ¬ ((0 : Int) ≠ 0); decide)] at hF
      have hok := ownK_ok L L.length (Nat.le_refl _)
      have hoe : L.foldl (fun own a => mergeL own [a]) [] = ownK L L.length := by unfold ownK; rw [List.take_length]
      rw [hoe] at hF
      obtain ⟨W, hW⟩ : ∃ W, ownK L L.length = W := ⟨_, rfl⟩
      have hown2 := HOWN.out
      rw [hW] at hF hok hown2
      have HW := Lib.hid hown2
      have HV20 : Hid (∀ r ∈ W, r.2.length ≤ 20000) := Lib.hid (fun r hr => by have := HLB.out r (hok.2 r hr); omega)
      obtain ⟨mx, mr, hm⟩ : ∃ mx mr, getL W wMode = (mx, mr) := ⟨_, _, rfl⟩
      have HM : Hid (getL W (ByteArray.mk #[109, 111, 100, 101]).data.toList = (mx, mr)) := Lib.hid hm
      obtain ⟨n0, h0⟩ : ∃ n, (if modeL mx < 0 then 0 else modeL mx) = n := ⟨_, rfl⟩
      obtain ⟨n1, h1⟩ : ∃ n, numL 4 W wNodesep = n := ⟨_, rfl⟩
      obtain ⟨n2, h2⟩ : ∃ n, numL 4 W wRanksep = n := ⟨_, rfl⟩
      obtain ⟨n3, h3⟩ : ∃ n, numL 4 W wMargin = n := ⟨_, rfl⟩
      obtain ⟨n4, h4⟩ : ∃ n, numL 4 W wRounds = n := ⟨_, rfl⟩
      have H0 : Hid ((if modeL (bb mx).data.toList < 0 then 0 else modeL (bb mx).data.toList) = n0) := Lib.hid h0
      have H1 : Hid (numL 4 W (ByteArray.mk #[110, 111, 100, 101, 115, 101, 112]).data.toList = n1) := Lib.hid h1
      have H2 : Hid (numL 4 W (ByteArray.mk #[114, 97, 110, 107, 115, 101, 112]).data.toList = n2) := Lib.hid h2
      have H3 : Hid (numL 4 W (ByteArray.mk #[109, 97, 114, 103, 105, 110]).data.toList = n3) := Lib.hid h3
      have H4 : Hid (numL 4 W (ByteArray.mk #[114, 111, 117, 110, 100, 115]).data.toList = n4) := Lib.hid h4
      have hop : optsOf W = ⟨n0, n1, n2, n3, n4⟩ := by unfold optsOf; rw [hm, h0, h1, h2, h3, h4]
      rw [hop] at hF
      obtain ⟨rfl, rfl⟩ := Prod.mk.inj hF
      clear hfc hF hok hoe hW hown2 hm h0 h1 h2 h3 h4 hop HF3 HOWN
      go_wp2_with fail
      refine (rget_of _ W _ mx mr wr HW HM).mono ?_
      rintro e w8 ⟨rfl, rfl⟩
      go_wp2_with fail
      refine (rmode_of (bb mx) n0 wr H0).mono ?_
      rintro e w8 ⟨rfl, rfl⟩
      go_wp2_with fail
      refine (rnum_of 4 _ W _ n1 wr HW HV20 H1).mono ?_
      rintro e wx1 ⟨rfl, hbx⟩
      have HBx1 := Lib.hid (below_keep hbx HBw.out)
      have HOx1 := Lib.hid (obx_keep HOw.out hbx)
      have HWx1 := Lib.hid (HW.out.keep hbx)
      clear hbx
      go_wp2_with fail
      refine (rnum_of 4 _ W _ n2 wx1 HWx1 HV20 H2).mono ?_
      rintro e wx2 ⟨rfl, hbx⟩
      have HBx2 := Lib.hid (below_keep hbx HBx1.out)
      have HOx2 := Lib.hid (obx_keep HOx1.out hbx)
      have HWx2 := Lib.hid (HWx1.out.keep hbx)
      clear hbx
      go_wp2_with fail
      refine (rnum_of 4 _ W _ n3 wx2 HWx2 HV20 H3).mono ?_
      rintro e wx3 ⟨rfl, hbx⟩
      have HBx3 := Lib.hid (below_keep hbx HBx2.out)
      have HOx3 := Lib.hid (obx_keep HOx2.out hbx)
      have HWx3 := Lib.hid (HWx2.out.keep hbx)
      clear hbx
      go_wp2_with fail
      refine (rnum_of 4 _ W _ n4 wx3 HWx3 HV20 H4).mono ?_
      rintro e wx4 ⟨rfl, hbx⟩
      have HBx4 := Lib.hid (below_keep hbx HBx3.out)
      have HOx4 := Lib.hid (obx_keep HOx3.out hbx)
      have HWx4 := Lib.hid (HWx3.out.keep hbx)
      clear hbx
      obtain ⟨o0, o1, o2, o3, o4, f0, f1, f2, f3, f4⟩ := HOx4.out
      go_wp2
      have r0 : (wx4.setCell ⟨w.heap.size + 1, 0, none⟩ (.int .i64 n0)).cell? ⟨w.heap.size + 1, 0, none⟩ = some (.int .i64 n0) := by go_simp
      have r1 : ((wx4.setCell ⟨w.heap.size + 1, 0, none⟩ (.int .i64 n0)).setCell ⟨w.heap.size + 1, 1, none⟩ (.int .i64 n1)).cell? ⟨w.heap.size + 1, 1, none⟩ = some (.int .i64 n1) := by go_simp
      have r2 : (((wx4.setCell ⟨w.heap.size + 1, 0, none⟩ (.int .i64 n0)).setCell ⟨w.heap.size + 1, 1, none⟩ (.int .i64 n1)).setCell ⟨w.heap.size + 1, 2, none⟩ (.int .i64 n2)).cell? ⟨w.heap.size + 1, 2, none⟩ = some (.int .i64 n2) := by go_simp
      have r3 : ((((wx4.setCell ⟨w.heap.size + 1, 0, none⟩ (.int .i64 n0)).setCell ⟨w.heap.size + 1, 1, none⟩ (.int .i64 n1)).setCell ⟨w.heap.size + 1, 2, none⟩ (.int .i64 n2)).setCell ⟨w.heap.size + 1, 3, none⟩ (.int .i64 n3)).cell? ⟨w.heap.size + 1, 3, none⟩ = some (.int .i64 n3) := by go_simp
      have r4 : (((((wx4.setCell ⟨w.heap.size + 1, 0, none⟩ (.int .i64 n0)).setCell ⟨w.heap.size + 1, 1, none⟩ (.int .i64 n1)).setCell ⟨w.heap.size + 1, 2, none⟩ (.int .i64 n2)).setCell ⟨w.heap.size + 1, 3, none⟩ (.int .i64 n3)).setCell ⟨w.heap.size + 1, 4, none⟩ (.int .i64 n4)).cell? ⟨w.heap.size + 1, 4, none⟩ = some (.int .i64 n4) := by go_simp
      exact bodyPost_ret (v := .tuple #[.agg #[.int .i64 n0, .int .i64 n1, .int .i64 n2, .int .i64 n3, .int .i64 n4], .int .i64 0]) (by simp [results, Tryz.results14, go_sem, r0, r1, r2, r3, r4]) rfl ⟨by rw [show opV ⟨n0, n1, n2, n3, n4⟩ = _ from rfl]; rfl, ((((HBx4.out.setCell (by simp) _).setCell (by simp) _).setCell (by simp) _).setCell (by simp) _).setCell (by simp) _⟩
end Go.Proofs.YtcdoicgbjoikkaaGreatDoor.nor
