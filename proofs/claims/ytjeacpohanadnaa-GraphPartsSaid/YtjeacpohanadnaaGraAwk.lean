/-
  What awake of the statements of layer 11 returns. No condition.
-/
import Derived.Test.YtjeacpohanadnaaGraHas
import Derived.Test.YtjeacpohanadnaaGraC9
import Derived.Test.YtjeacpohanadnaaGraCA
namespace Go.Proofs.Ytjeacpohanadnaa.gra
open Go.RowKit lex

def emG : Gr := ⟨[], false, [], [], []⟩
theorem emG_of (w : World) : GrV w (.agg #[.string ⟨#[]⟩, .bool false, .slice none 0 0, .slice none 0 0, .slice none 0 0]) emG := ⟨_, _, _, rfl, by decide, Rw.nil .., Rw.nil .., Rw.nil ..⟩
theorem ins_lit (w : World) (l : List Int) (hl : l.length ≤ maxLen) : Ins (w.alloc (.cells (l.flatMap inC).toArray 3)) (.slice (some ⟨w.heap.size, 0, none⟩) l.length l.length) l :=
  lit_rw (f := inC) (fun _ => rfl) (fun b o x _ hj => by have := hj 0 (by decide); exact this) (blk_new ..) (by simp) hl
theorem x_facts : validE exG = 0 ∧ memV exG 0 = [0, 1] ∧ memV exG 1 = [1] ∧ commV exG 0 1 = 0 ∧ depthV exG 1 = 2 ∧ findV exG [121] = 1 ∧ exG.ns.length = 2 ∧ (arcsL exG).length = 1 ∧ exG.es.length ≤ 300 ∧ decide (exG = emG) = false := by
  refine ⟨?_, ?_, ?_, ?_, ?_, ?_, ?_, ?_, ?_, ?_⟩ <;> decide +kernel
theorem x_empty : validE emG = 5 := by decide +kernel
set_option maxRecDepth 100000 in
set_option maxHeartbeats 16000000 in
theorem awake_any (w : World) : Calls Try.prog 8 #[] w fun e w' => e = .returned (.bool true) ∧ Below w.heap.size w w' := by
  go_enter Try.func8, Try.ntmps8
  go_wp2_with fail
  refine (example_of w).mono ?_
  rintro e w1 ⟨⟨v, rfl, hv⟩, hb1⟩
  obtain ⟨f0, f1, f2, f3, f4, f5, f6, f7, f8, f9⟩ := x_facts
  generalize exG = g at hv f0 f1 f2 f3 f4 f5 f6 f7 f8 f9
  have F0 := Lib.hid f0
  have F1 := Lib.hid f1
  have F2 := Lib.hid f2
  have F3 := Lib.hid f3
  have F4 := Lib.hid f4
  have F5 := Lib.hid f5
  have F9 := Lib.hid f9
  have F6 : ((g.ns.length : Nat) : Int) = 2 := by rw [f6]; rfl
  have F7 : (((arcsL g).length : Nat) : Int) = 1 := by rw [f7]; rfl
  have hg := hv
  obtain ⟨nv, ev, cv, rfl, -, hns, hes, hcs⟩ := hv
  obtain ⟨no, nc, rfl, -, -, -⟩ := id hns
  obtain ⟨eo, ec, rfl, -, -, -⟩ := id hes
  obtain ⟨co, cc, rfl, -, -, -⟩ := id hcs
  have HG := Lib.hid hg
  have HB1 := Lib.hid (below_keep (al1 w1 (.cells #[.string (bb g.nm), .bool g.dir, .slice no g.ns.length nc, .slice eo g.es.length ec, .slice co g.cs.length cc] 26)) hb1)
  have HQ1 := Lib.hid (al1 w1 (.cells #[.string (bb g.nm), .bool g.dir, .slice no g.ns.length nc, .slice eo g.es.length ec, .slice co g.cs.length cc] 26))
  have HA1 := Lib.hid (gat_new w1 (bb g.nm) g.dir (.slice no g.ns.length nc) (.slice eo g.es.length ec) (.slice co g.cs.length cc) 26)
  have HR1 := Lib.hid (HG.out.keep HQ1.out)
  clear hns hes hcs hg hb1 f0 f1 f2 f3 f4 f5 f6 f7 f9
  go_wp2_with fail
  refine (cSkeleton_of _ g _ HR1 f8).mono ?_
  rintro e w2 ⟨v2, rfl, ⟨av, rfl, hav⟩, hb2⟩
  obtain ⟨ao, ac, rfl, -, -, -⟩ := id hav
  simp only [F6]
  have HB2 := Lib.hid (below_keep (al1 w2 (.cells #[.int .i64 2, .slice ao (arcsL g).length ac] 35)) (below_keep hb2 HB1.out))
  have HQ2 := Lib.hid (below_keep (al1 w2 (.cells #[.int .i64 2, .slice ao (arcsL g).length ac] 35)) (below_keep hb2 HQ1.out))
  have HA2 := Lib.hid (gat_alloc (.cells #[.int .i64 2, .slice ao (arcsL g).length ac] 35) (gat_keep HA1.out hb2))
  have HD2 := Lib.hid (dgb_new w2 2 ao (arcsL g).length ac 35)
  clear hav hb2 f8 HR1
  have HR2 := Lib.hid (HG.out.keep HQ2.out)
  obtain ⟨g0, g1, g2, g3, g4⟩ := HA2.out
  obtain ⟨d0, d1, -, -⟩ := HD2.out
  go_wp2_with fail
  refine (cvalid_of _ emG 5 _ (Lib.hid (emG_of _)) (Lib.hid x_empty)).mono ?_
  rintro e w3 ⟨rfl, hb⟩
  have HB3 := Lib.hid (below_keep hb HB2.out)
  have HQ3 := Lib.hid (below_keep hb HQ2.out)
  have HA3 := Lib.hid (gat_keep HA2.out hb)
  have HD3 := Lib.hid (dgb_keep HD2.out hb)
  clear hb g0 g1 g2 g3 g4 d0 d1 HR2
  have HR3 := Lib.hid (HG.out.keep HQ3.out)
  obtain ⟨g0, g1, g2, g3, g4⟩ := HA3.out
  obtain ⟨d0, d1, -, -⟩ := HD3.out
  go_wp2_with fail
  refine (cvalid_of _ g 0 _ HR3 F0).mono ?_
  rintro e w4 ⟨rfl, hb⟩
  have HB4 := Lib.hid (below_keep hb HB3.out)
  have HQ4 := Lib.hid (below_keep hb HQ3.out)
  have HA4 := Lib.hid (gat_keep HA3.out hb)
  have HD4 := Lib.hid (dgb_keep HD3.out hb)
  clear hb g0 g1 g2 g3 g4 d0 d1 HR3
  have HR4 := Lib.hid (HG.out.keep HQ4.out)
  obtain ⟨g0, g1, g2, g3, g4⟩ := HA4.out
  obtain ⟨d0, d1, -, -⟩ := HD4.out
  go_wp2_with fail
  refine (cMembers_of _ g 0 _ _ HR4 F1).mono ?_
  rintro e w5 ⟨v100, rfl, hv100, hb⟩
  have HB5 := Lib.hid (below_keep hb HB4.out)
  have HQ5 := Lib.hid (below_keep hb HQ4.out)
  have HA5 := Lib.hid (gat_keep HA4.out hb)
  have HD5 := Lib.hid (dgb_keep HD4.out hb)
  clear hb g0 g1 g2 g3 g4 d0 d1 HR4
  have HM : Hid (Ins (w5.alloc (.cells #[.int .i64 0, .int .i64 1] 3)) _ [0, 1]) := Lib.hid (Ins.keep hv100 (al1 ..))
  have HL : Hid (Ins (w5.alloc (.cells #[.int .i64 0, .int .i64 1] 3)) (.slice (some ⟨w5.heap.size, 0, none⟩) 2 2) [0, 1]) := Lib.hid (ins_lit w5 [0, 1] (by decide))
  have HBa := Lib.hid (below_keep (al1 w5 (.cells #[.int .i64 0, .int .i64 1] 3)) HB5.out)
  have HQa := Lib.hid (below_keep (al1 w5 (.cells #[.int .i64 0, .int .i64 1] 3)) HQ5.out)
  have HAa := Lib.hid (gat_alloc (.cells #[.int .i64 0, .int .i64 1] 3) HA5.out)
  have HDa := Lib.hid (dgb_alloc (.cells #[.int .i64 0, .int .i64 1] 3) HD5.out)
  clear hv100
  go_wp2_with fail
  refine (gsameints_of _ _ [0, 1] [0, 1] true _ HM HL (Lib.hid (by simp))).mono ?_
  rintro e w6 ⟨rfl, hb⟩
  have HB6 := Lib.hid (below_keep hb HBa.out)
  have HQ6 := Lib.hid (below_keep hb HQa.out)
  have HA6 := Lib.hid (gat_keep HAa.out hb)
  have HD6 := Lib.hid (dgb_keep HDa.out hb)
  clear hb HM HL HBa HQa HAa HDa
  have HR6 := Lib.hid (HG.out.keep HQ6.out)
  obtain ⟨g0, g1, g2, g3, g4⟩ := HA6.out
  obtain ⟨d0, d1, -, -⟩ := HD6.out
  go_wp2_with fail
  refine (cMembers_of _ g 1 _ _ HR6 F2).mono ?_
  rintro e w7 ⟨v101, rfl, hv101, hb⟩
  have HB7 := Lib.hid (below_keep hb HB6.out)
  have HQ7 := Lib.hid (below_keep hb HQ6.out)
  have HA7 := Lib.hid (gat_keep HA6.out hb)
  have HD7 := Lib.hid (dgb_keep HD6.out hb)
  clear hb g0 g1 g2 g3 g4 d0 d1 HR6
  have HM : Hid (Ins (w7.alloc (.cells #[.int .i64 1] 3)) _ [1]) := Lib.hid (Ins.keep hv101 (al1 ..))
  have HL : Hid (Ins (w7.alloc (.cells #[.int .i64 1] 3)) (.slice (some ⟨w7.heap.size, 0, none⟩) 1 1) [1]) := Lib.hid (ins_lit w7 [1] (by decide))
  have HBa := Lib.hid (below_keep (al1 w7 (.cells #[.int .i64 1] 3)) HB7.out)
  have HQa := Lib.hid (below_keep (al1 w7 (.cells #[.int .i64 1] 3)) HQ7.out)
  have HAa := Lib.hid (gat_alloc (.cells #[.int .i64 1] 3) HA7.out)
  have HDa := Lib.hid (dgb_alloc (.cells #[.int .i64 1] 3) HD7.out)
  clear hv101
  go_wp2_with fail
  refine (gsameints_of _ _ [1] [1] true _ HM HL (Lib.hid (by simp))).mono ?_
  rintro e w8 ⟨rfl, hb⟩
  have HB8 := Lib.hid (below_keep hb HBa.out)
  have HQ8 := Lib.hid (below_keep hb HQa.out)
  have HA8 := Lib.hid (gat_keep HAa.out hb)
  have HD8 := Lib.hid (dgb_keep HDa.out hb)
  clear hb HM HL HBa HQa HAa HDa
  have HR8 := Lib.hid (HG.out.keep HQ8.out)
  obtain ⟨g0, g1, g2, g3, g4⟩ := HA8.out
  obtain ⟨d0, d1, -, -⟩ := HD8.out
  go_wp2_with fail
  refine (cCommon_of _ g 0 1 0 _ HR8 F3).mono ?_
  rintro e w9 ⟨rfl, hb⟩
  have HB9 := Lib.hid (below_keep hb HB8.out)
  have HQ9 := Lib.hid (below_keep hb HQ8.out)
  have HA9 := Lib.hid (gat_keep HA8.out hb)
  have HD9 := Lib.hid (dgb_keep HD8.out hb)
  clear hb g0 g1 g2 g3 g4 d0 d1 HR8
  have HR9 := Lib.hid (HG.out.keep HQ9.out)
  obtain ⟨g0, g1, g2, g3, g4⟩ := HA9.out
  obtain ⟨d0, d1, -, -⟩ := HD9.out
  go_wp2_with fail
  refine (cDepth_of _ g 1 2 _ HR9 F4).mono ?_
  rintro e w10 ⟨rfl, hb⟩
  have HB10 := Lib.hid (below_keep hb HB9.out)
  have HQ10 := Lib.hid (below_keep hb HQ9.out)
  have HA10 := Lib.hid (gat_keep HA9.out hb)
  have HD10 := Lib.hid (dgb_keep HD9.out hb)
  clear hb g0 g1 g2 g3 g4 d0 d1 HR9
  have HR10 := Lib.hid (HG.out.keep HQ10.out)
  obtain ⟨g0, g1, g2, g3, g4⟩ := HA10.out
  obtain ⟨d0, d1, -, -⟩ := HD10.out
  go_wp2_with fail
  refine (cfind_of _ g ⟨#[121]⟩ 1 _ HR10 F5).mono ?_
  rintro e w11 ⟨rfl, hb⟩
  have HB11 := Lib.hid (below_keep hb HB10.out)
  have HQ11 := Lib.hid (below_keep hb HQ10.out)
  have HA11 := Lib.hid (gat_keep HA10.out hb)
  have HD11 := Lib.hid (dgb_keep HD10.out hb)
  clear hb g0 g1 g2 g3 g4 d0 d1 HR10
  have HR11 := Lib.hid (HG.out.keep HQ11.out)
  obtain ⟨g0, g1, g2, g3, g4⟩ := HA11.out
  obtain ⟨d0, d1, -, -⟩ := HD11.out
  go_wp2_with fail
  refine (csame_of _ _ g g true _ HR11 HR11 (Lib.hid (by simp))).mono ?_
  rintro e w12 ⟨rfl, hb⟩
  have HB12 := Lib.hid (below_keep hb HB11.out)
  have HQ12 := Lib.hid (below_keep hb HQ11.out)
  have HA12 := Lib.hid (gat_keep HA11.out hb)
  have HD12 := Lib.hid (dgb_keep HD11.out hb)
  clear hb g0 g1 g2 g3 g4 d0 d1 HR11
  have HR12 := Lib.hid (HG.out.keep HQ12.out)
  obtain ⟨g0, g1, g2, g3, g4⟩ := HA12.out
  obtain ⟨d0, d1, -, -⟩ := HD12.out
  go_wp2_with fail
  refine (csame_of _ _ g emG false _ HR12 (Lib.hid (emG_of _)) F9).mono ?_
  rintro e w13 ⟨rfl, hb⟩
  have HB13 := Lib.hid (below_keep hb HB12.out)
  have HQ13 := Lib.hid (below_keep hb HQ12.out)
  have HA13 := Lib.hid (gat_keep HA12.out hb)
  have HD13 := Lib.hid (dgb_keep HD12.out hb)
  clear hb g0 g1 g2 g3 g4 d0 d1 HR12
  go_wp2
  go_ret
  exact ⟨rfl, HB13.out⟩
end Go.Proofs.Ytjeacpohanadnaa.gra
