/-
  The example of the statements of layer 14, over what the code's functions return. No condition.
-/
import Derived.Test.YtkmamdlhpbobhaaDigWFl
import Derived.Test.YtkmamdlhpbobhaaDigWSi
namespace Go.Proofs.Ytkmamdlhpbobhaa.dig
open Go.RowKit

def ValSays : Prop := ∀ (v : Value) (n : Int) (l : List Ar) (R : Bool) (w : World), Hid (DgV w v n l) → Hid (validD n l = R) → Calls Try.prog 11 #[v] w fun e w' => e = .returned (.bool R) ∧ Below w.heap.size w w'
def SameSays : Prop := ∀ (v v2 : Value) (n n2 : Int) (a b : List Ar) (R : Bool) (w : World), Hid (DgV w v n a) → Hid (DgV w v2 n2 b) → Hid (decide (n = n2 ∧ a = b) = R) → Calls Try.prog 13 #[v, v2] w fun e w' => e = .returned (.bool R) ∧ Below w.heap.size w w'
def DegSays : Prop := ∀ (v : Value) (n : Int) (l : List Ar) (x R : Int) (w : World), Hid (DgV w v n l) → Hid (l.length ≤ 400) → Hid (degV n l x = R) → Calls Try.prog 15 #[v, .int .i64 x] w fun e w' => e = .returned (.int .i64 R) ∧ Below w.heap.size w w'
def NbrSays : Prop := ∀ (v : Value) (n : Int) (l : List Ar) (x : Int) (R : List Int) (w : World), Hid (DgV w v n l) → Hid (l.length ≤ 400) → Hid (nbrV n l x = R) → Calls Try.prog 18 #[v, .int .i64 x] w (InsOut R w)
theorem ins_lit (w : World) (l : List Int) (hl : l.length ≤ maxLen) : Ins (w.alloc (.cells (l.flatMap inC).toArray 3)) (.slice (some ⟨w.heap.size, 0, none⟩) l.length l.length) l :=
  lit_rw (f := inC) (fun _ => rfl) (fun b o x _ hj => by have := hj 0 (by decide); exact this) (blk_new ..) (by simp) hl
theorem ars_lit (w : World) (l : List Ar) (hl : l.length ≤ maxLen) : Ars (w.alloc (.cells (l.flatMap arC).toArray 43)) (.slice (some ⟨w.heap.size, 0, none⟩) l.length l.length) l :=
  lit_rw (f := arC) (fun _ => rfl) (fun b o x _ hj => ⟨by have := hj 0 (by decide); exact this, by have := hj 1 (by decide); exact this⟩) (blk_new ..) (by simp) hl
theorem eq_ar (u v : Ar) (dq : Bool) (h : Hid (decide (u = v) = dq)) (w : World) : (binOp .eql 43 (.agg #[.int .i64 u.1, .int .i64 u.2]) (.agg #[.int .i64 v.1, .int .i64 v.2])).run Try.prog w = .ok (.bool dq) w := by
  have hu : Try.prog.underlying 43 = some (.struct (Try.prog.fieldsOf 43)) := by kernel_rfl
  have hp : Try.prog.stoodInHeld 43 = false := by kernel_rfl
  obtain ⟨a0, a1⟩ := u
  obtain ⟨c0, c1⟩ := v
  rw [run_eql_struct, run_equalIn_agg w 9999 _ _ _ hu hp, ← h.out]
  by_cases h1 : a0 = c0 <;> by_cases h2 : a1 = c1 <;> simp [go_sem, Op.eqFields, Program.fieldsOf, Try.underlying43, Try.underlying3, h1, h2]
abbrev exD : List Ar := [(0, 1), (1, 0), (2, 2), (1, 2)]
abbrev exF : List Ar := [(0, 1), (1, 0), (2, 2), (2, 1)]
theorem x_sim : simE 3 exD = ((3, [(0, 1), (1, 2)]), [0, -1, -1, 1]) := by decide +kernel
theorem x_ind : indE 3 exD [2, 1] = (((2, [(0, 0), (1, 0)]), [2, 3]), 0) := by decide +kernel
theorem x_flip : flipE 3 exD [3] = ((3, exF), 0) := by decide +kernel
theorem x_val : validD 3 exD = true := by decide +kernel
theorem x_val0 : validD (-1) [] = false := by decide +kernel
theorem x_deg : degV 3 exD 2 = 3 := by decide +kernel
theorem x_nbr : nbrV 3 exD 1 = [0, 2] := by decide +kernel
set_option maxRecDepth 100000 in
set_option maxHeartbeats 16000000 in
theorem awake_of (HVA : ValSays) (HSA : SameSays) (HDE : DegSays) (HNB : NbrSays) (HFL : FlipSays) (HSI : SimSays) (HIN : IndSays) : AwakeSays := by
  intro w
  have HB : Hid (Below w.heap.size w ((w.alloc (.cells #[.int .i64 0, .int .i64 1, .int .i64 1, .int .i64 0, .int .i64 2, .int .i64 2, .int .i64 1, .int .i64 2] 43)).alloc (.cells #[.int .i64 3, .slice (some ⟨w.heap.size, 0, none⟩) 4 4] 24))) := Lib.hid (al2 ..)
  have HV : Hid (Ars ((w.alloc (.cells #[.int .i64 0, .int .i64 1, .int .i64 1, .int .i64 0, .int .i64 2, .int .i64 2, .int .i64 1, .int .i64 2] 43)).alloc (.cells #[.int .i64 3, .slice (some ⟨w.heap.size, 0, none⟩) 4 4] 24)) (.slice (some ⟨w.heap.size, 0, none⟩) 4 4) exD) := Lib.hid ((ars_lit w exD (by decide)).keep (al1 ..))
  have HD : Hid (dgb ((w.alloc (.cells #[.int .i64 0, .int .i64 1, .int .i64 1, .int .i64 0, .int .i64 2, .int .i64 2, .int .i64 1, .int .i64 2] 43)).alloc (.cells #[.int .i64 3, .slice (some ⟨w.heap.size, 0, none⟩) 4 4] 24)) (w.heap.size + 1) 3 (.slice (some ⟨w.heap.size, 0, none⟩) 4 4)) := Lib.hid (by have := dgb_new (w.alloc (.cells #[.int .i64 0, .int .i64 1, .int .i64 1, .int .i64 0, .int .i64 2, .int .i64 2, .int .i64 1, .int .i64 2] 43)) 3 (some ⟨w.heap.size, 0, none⟩) 4 4 24; rwa [World.size_alloc] at this)
  go_enter Try.func10, Try.ntmps10
  go_wp2_with fail
  generalize (w.alloc (.cells #[.int .i64 0, .int .i64 1, .int .i64 1, .int .i64 0, .int .i64 2, .int .i64 2, .int .i64 1, .int .i64 2] 43)).alloc (.cells #[.int .i64 3, .slice (some ⟨w.heap.size, 0, none⟩) 4 4] 24) = w1 at *
  obtain ⟨g0, hg0⟩ : ∃ g, w.heap.size = g := ⟨_, rfl⟩
  have HG0 := Lib.hid hg0
  rw [hg0] at HD HV
  try simp only [hg0]
  clear hg0
  obtain ⟨d0, d1, -, -⟩ := HD.out
  clear d0 d1
  obtain ⟨qHD0, qHD1, -, -⟩ := HD.out
  refine (HSI _ 3 3 exD [(0, 1), (1, 2)] [0, -1, -1, 1] _ (Lib.hid ⟨_, rfl, HV.out⟩) (Lib.hid (by decide)) (Lib.hid x_sim)).mono ?_
  rintro e w2 ⟨v2, j2, rfl, ⟨a2, rfl, hav⟩, hj2, hb⟩
  obtain ⟨ao2, ac2, rfl, -, -, -⟩ := id hav
  have hb2 := below_keep (al1 w2 (.cells #[.int .i64 3, .slice ao2 2 ac2] 24)) hb
  have HX := Lib.hid (dgb_new w2 3 ao2 2 ac2 24)
  have HJ := Lib.hid (hj2.keep (al1 w2 (.cells #[.int .i64 3, .slice ao2 2 ac2] 24)))
  clear hav hj2 hb
  clear qHD0 qHD1
  replace HB := Lib.hid (below_keep hb2 HB.out)
  replace HD := Lib.hid (dgb_keep HD.out hb2)
  replace HV := Lib.hid (HV.out.keep hb2)
  clear hb2
  obtain ⟨qHD0, qHD1, -, -⟩ := HD.out
  obtain ⟨qHX0, qHX1, -, -⟩ := HX.out
  go_wp2_with fail
  have hl := ins_lit (w2.alloc (.cells #[.int .i64 3, .slice ao2 2 ac2] 24)) [2, 1] (by decide)
  have hbl := al1 (w2.alloc (.cells #[.int .i64 3, .slice ao2 2 ac2] 24)) (.cells #[.int .i64 2, .int .i64 1] 3)
  try simp only [World.size_alloc] at hl
  clear qHD0 qHD1 qHX0 qHX1
  replace HB := Lib.hid (below_keep hbl HB.out)
  replace HD := Lib.hid (dgb_keep HD.out hbl)
  replace HV := Lib.hid (HV.out.keep hbl)
  replace HX := Lib.hid (dgb_keep HX.out hbl)
  replace HJ := Lib.hid (HJ.out.keep hbl)
  refine (HIN _ _ 3 2 exD [(0, 0), (1, 0)] [2, 1] [2, 3] 0 _ (Lib.hid ⟨_, rfl, HV.out⟩) (Lib.hid hl) (Lib.hid x_ind)).mono ?_
  rintro e w3 ⟨v3, j3, rfl, ⟨a3, rfl, hav⟩, hj3, hb⟩
  obtain ⟨ao3, ac3, rfl, -, -, -⟩ := id hav
  have hb3 := below_keep (al1 w3 (.cells #[.int .i64 2, .slice ao3 2 ac3] 24)) hb
  have HY := Lib.hid (dgb_new w3 2 ao3 2 ac3 24)
  have HI := Lib.hid (hj3.keep (al1 w3 (.cells #[.int .i64 2, .slice ao3 2 ac3] 24)))
  clear hav hj3 hb hl hbl
  replace HB := Lib.hid (below_keep hb3 HB.out)
  replace HD := Lib.hid (dgb_keep HD.out hb3)
  replace HV := Lib.hid (HV.out.keep hb3)
  replace HX := Lib.hid (dgb_keep HX.out hb3)
  replace HJ := Lib.hid (HJ.out.keep hb3)
  clear hb3
  obtain ⟨qHD0, qHD1, -, -⟩ := HD.out
  obtain ⟨qHX0, qHX1, -, -⟩ := HX.out
  obtain ⟨qHY0, qHY1, -, -⟩ := HY.out
  go_wp2_with fail
  have hl := ins_lit (w3.alloc (.cells #[.int .i64 2, .slice ao3 2 ac3] 24)) [3] (by decide)
  have hbl := al1 (w3.alloc (.cells #[.int .i64 2, .slice ao3 2 ac3] 24)) (.cells #[.int .i64 3] 3)
  try simp only [World.size_alloc] at hl
  clear qHD0 qHD1 qHX0 qHX1 qHY0 qHY1
  replace HB := Lib.hid (below_keep hbl HB.out)
  replace HD := Lib.hid (dgb_keep HD.out hbl)
  replace HV := Lib.hid (HV.out.keep hbl)
  replace HX := Lib.hid (dgb_keep HX.out hbl)
  replace HJ := Lib.hid (HJ.out.keep hbl)
  replace HY := Lib.hid (dgb_keep HY.out hbl)
  replace HI := Lib.hid (HI.out.keep hbl)
  refine (HFL _ _ 3 3 exD exF [3] 0 _ (Lib.hid ⟨_, rfl, HV.out⟩) (Lib.hid hl) (Lib.hid x_flip)).mono ?_
  rintro e w4 ⟨v4, rfl, ⟨a4, rfl, hav⟩, hb⟩
  obtain ⟨ao4, ac4, rfl, -, -, -⟩ := id hav
  have hb4 := below_keep (al1 w4 (.cells #[.int .i64 3, .slice ao4 4 ac4] 24)) hb
  have HZ := Lib.hid (dgb_new w4 3 ao4 4 ac4 24)
  have HF := Lib.hid (hav.keep (al1 w4 (.cells #[.int .i64 3, .slice ao4 4 ac4] 24)))
  clear hav hb hl hbl
  replace HB := Lib.hid (below_keep hb4 HB.out)
  replace HD := Lib.hid (dgb_keep HD.out hb4)
  replace HV := Lib.hid (HV.out.keep hb4)
  replace HX := Lib.hid (dgb_keep HX.out hb4)
  replace HJ := Lib.hid (HJ.out.keep hb4)
  replace HY := Lib.hid (dgb_keep HY.out hb4)
  replace HI := Lib.hid (HI.out.keep hb4)
  clear hb4
  obtain ⟨qHD0, qHD1, -, -⟩ := HD.out
  obtain ⟨qHX0, qHX1, -, -⟩ := HX.out
  obtain ⟨qHY0, qHY1, -, -⟩ := HY.out
  obtain ⟨qHZ0, qHZ1, -, -⟩ := HZ.out
  go_wp2_with fail
  refine (HVA _ 3 exD true _ (Lib.hid ⟨_, rfl, HV.out⟩) (Lib.hid x_val)).mono ?_
  rintro e w5 ⟨rfl, hb⟩
  clear qHD0 qHD1 qHX0 qHX1 qHY0 qHY1 qHZ0 qHZ1
  replace HB := Lib.hid (below_keep hb HB.out)
  replace HD := Lib.hid (dgb_keep HD.out hb)
  replace HV := Lib.hid (HV.out.keep hb)
  replace HX := Lib.hid (dgb_keep HX.out hb)
  replace HJ := Lib.hid (HJ.out.keep hb)
  replace HY := Lib.hid (dgb_keep HY.out hb)
  replace HI := Lib.hid (HI.out.keep hb)
  replace HZ := Lib.hid (dgb_keep HZ.out hb)
  replace HF := Lib.hid (HF.out.keep hb)
  clear hb
  obtain ⟨qHD0, qHD1, -, -⟩ := HD.out
  obtain ⟨qHX0, qHX1, -, -⟩ := HX.out
  obtain ⟨qHY0, qHY1, -, -⟩ := HY.out
  obtain ⟨qHZ0, qHZ1, -, -⟩ := HZ.out
  go_wp2_with fail
  refine (HVA _ (-1) [] false _ (Lib.hid ⟨_, rfl, Rw.nil ..⟩) (Lib.hid x_val0)).mono ?_
  rintro e w6 ⟨rfl, hb⟩
  clear qHD0 qHD1 qHX0 qHX1 qHY0 qHY1 qHZ0 qHZ1
  replace HB := Lib.hid (below_keep hb HB.out)
  replace HD := Lib.hid (dgb_keep HD.out hb)
  replace HV := Lib.hid (HV.out.keep hb)
  replace HX := Lib.hid (dgb_keep HX.out hb)
  replace HJ := Lib.hid (HJ.out.keep hb)
  replace HY := Lib.hid (dgb_keep HY.out hb)
  replace HI := Lib.hid (HI.out.keep hb)
  replace HZ := Lib.hid (dgb_keep HZ.out hb)
  replace HF := Lib.hid (HF.out.keep hb)
  clear hb
  obtain ⟨qHD0, qHD1, -, -⟩ := HD.out
  obtain ⟨qHX0, qHX1, -, -⟩ := HX.out
  obtain ⟨qHY0, qHY1, -, -⟩ := HY.out
  obtain ⟨qHZ0, qHZ1, -, -⟩ := HZ.out
  go_wp2_with fail
  refine (HDE _ 3 exD 2 3 _ (Lib.hid ⟨_, rfl, HV.out⟩) (Lib.hid (by decide)) (Lib.hid x_deg)).mono ?_
  rintro e w7 ⟨rfl, hb⟩
  clear qHD0 qHD1 qHX0 qHX1 qHY0 qHY1 qHZ0 qHZ1
  replace HB := Lib.hid (below_keep hb HB.out)
  replace HD := Lib.hid (dgb_keep HD.out hb)
  replace HV := Lib.hid (HV.out.keep hb)
  replace HX := Lib.hid (dgb_keep HX.out hb)
  replace HJ := Lib.hid (HJ.out.keep hb)
  replace HY := Lib.hid (dgb_keep HY.out hb)
  replace HI := Lib.hid (HI.out.keep hb)
  replace HZ := Lib.hid (dgb_keep HZ.out hb)
  replace HF := Lib.hid (HF.out.keep hb)
  clear hb
  obtain ⟨qHD0, qHD1, -, -⟩ := HD.out
  obtain ⟨qHX0, qHX1, -, -⟩ := HX.out
  obtain ⟨qHY0, qHY1, -, -⟩ := HY.out
  obtain ⟨qHZ0, qHZ1, -, -⟩ := HZ.out
  go_wp2_with fail
  refine (HNB _ 3 exD 1 [0, 2] _ (Lib.hid ⟨_, rfl, HV.out⟩) (Lib.hid (by decide)) (Lib.hid x_nbr)).mono ?_
  rintro e w8 ⟨nv, rfl, hnv, hb⟩
  clear qHD0 qHD1 qHX0 qHX1 qHY0 qHY1 qHZ0 qHZ1
  replace HB := Lib.hid (below_keep hb HB.out)
  replace HD := Lib.hid (dgb_keep HD.out hb)
  replace HV := Lib.hid (HV.out.keep hb)
  replace HX := Lib.hid (dgb_keep HX.out hb)
  replace HJ := Lib.hid (HJ.out.keep hb)
  replace HY := Lib.hid (dgb_keep HY.out hb)
  replace HI := Lib.hid (HI.out.keep hb)
  replace HZ := Lib.hid (dgb_keep HZ.out hb)
  replace HF := Lib.hid (HF.out.keep hb)
  have HN := Lib.hid hnv
  clear hb hnv
  obtain ⟨qHD0, qHD1, -, -⟩ := HD.out
  obtain ⟨qHX0, qHX1, -, -⟩ := HX.out
  obtain ⟨qHY0, qHY1, -, -⟩ := HY.out
  obtain ⟨qHZ0, qHZ1, -, -⟩ := HZ.out
  go_wp2_with fail
  have hl := ins_lit w8 [0, 2] (by decide)
  have hbl := al1 w8 (.cells #[.int .i64 0, .int .i64 2] 3)
  try simp only [World.size_alloc] at hl
  clear qHD0 qHD1 qHX0 qHX1 qHY0 qHY1 qHZ0 qHZ1
  replace HB := Lib.hid (below_keep hbl HB.out)
  replace HD := Lib.hid (dgb_keep HD.out hbl)
  replace HV := Lib.hid (HV.out.keep hbl)
  replace HX := Lib.hid (dgb_keep HX.out hbl)
  replace HJ := Lib.hid (HJ.out.keep hbl)
  replace HY := Lib.hid (dgb_keep HY.out hbl)
  replace HI := Lib.hid (HI.out.keep hbl)
  replace HZ := Lib.hid (dgb_keep HZ.out hbl)
  replace HF := Lib.hid (HF.out.keep hbl)
  replace HN := Lib.hid (HN.out.keep hbl)
  refine (rints_of _ _ [0, 2] [0, 2] true _ HN (Lib.hid hl) (Lib.hid (by simp))).mono ?_
  rintro e w9 ⟨rfl, hb⟩
  replace HB := Lib.hid (below_keep hb HB.out)
  replace HD := Lib.hid (dgb_keep HD.out hb)
  replace HV := Lib.hid (HV.out.keep hb)
  replace HX := Lib.hid (dgb_keep HX.out hb)
  replace HJ := Lib.hid (HJ.out.keep hb)
  replace HY := Lib.hid (dgb_keep HY.out hb)
  replace HI := Lib.hid (HI.out.keep hb)
  replace HZ := Lib.hid (dgb_keep HZ.out hb)
  replace HF := Lib.hid (HF.out.keep hb)
  replace HN := Lib.hid (HN.out.keep hb)
  clear hb hl hbl
  obtain ⟨qHD0, qHD1, -, -⟩ := HD.out
  obtain ⟨qHX0, qHX1, -, -⟩ := HX.out
  obtain ⟨qHY0, qHY1, -, -⟩ := HY.out
  obtain ⟨qHZ0, qHZ1, -, -⟩ := HZ.out
  go_wp2_with fail
  have hl := ins_lit w9 [0, -1, -1, 1] (by decide)
  have hbl := al1 w9 (.cells #[.int .i64 0, .int .i64 (-1), .int .i64 (-1), .int .i64 1] 3)
  try simp only [World.size_alloc] at hl
  clear qHD0 qHD1 qHX0 qHX1 qHY0 qHY1 qHZ0 qHZ1
  replace HB := Lib.hid (below_keep hbl HB.out)
  replace HD := Lib.hid (dgb_keep HD.out hbl)
  replace HV := Lib.hid (HV.out.keep hbl)
  replace HX := Lib.hid (dgb_keep HX.out hbl)
  replace HJ := Lib.hid (HJ.out.keep hbl)
  replace HY := Lib.hid (dgb_keep HY.out hbl)
  replace HI := Lib.hid (HI.out.keep hbl)
  replace HZ := Lib.hid (dgb_keep HZ.out hbl)
  replace HF := Lib.hid (HF.out.keep hbl)
  replace HN := Lib.hid (HN.out.keep hbl)
  refine (rints_of _ _ [0, -1, -1, 1] [0, -1, -1, 1] true _ HJ (Lib.hid hl) (Lib.hid (by simp))).mono ?_
  rintro e w10 ⟨rfl, hb⟩
  replace HB := Lib.hid (below_keep hb HB.out)
  replace HD := Lib.hid (dgb_keep HD.out hb)
  replace HV := Lib.hid (HV.out.keep hb)
  replace HX := Lib.hid (dgb_keep HX.out hb)
  replace HJ := Lib.hid (HJ.out.keep hb)
  replace HY := Lib.hid (dgb_keep HY.out hb)
  replace HI := Lib.hid (HI.out.keep hb)
  replace HZ := Lib.hid (dgb_keep HZ.out hb)
  replace HF := Lib.hid (HF.out.keep hb)
  replace HN := Lib.hid (HN.out.keep hb)
  clear hb hl hbl
  obtain ⟨qHD0, qHD1, -, -⟩ := HD.out
  obtain ⟨qHX0, qHX1, -, -⟩ := HX.out
  obtain ⟨qHY0, qHY1, -, -⟩ := HY.out
  obtain ⟨qHZ0, qHZ1, -, -⟩ := HZ.out
  go_wp2_with fail
  have hl := ins_lit w10 [2, 3] (by decide)
  have hbl := al1 w10 (.cells #[.int .i64 2, .int .i64 3] 3)
  try simp only [World.size_alloc] at hl
  clear qHD0 qHD1 qHX0 qHX1 qHY0 qHY1 qHZ0 qHZ1
  replace HB := Lib.hid (below_keep hbl HB.out)
  replace HD := Lib.hid (dgb_keep HD.out hbl)
  replace HV := Lib.hid (HV.out.keep hbl)
  replace HX := Lib.hid (dgb_keep HX.out hbl)
  replace HJ := Lib.hid (HJ.out.keep hbl)
  replace HY := Lib.hid (dgb_keep HY.out hbl)
  replace HI := Lib.hid (HI.out.keep hbl)
  replace HZ := Lib.hid (dgb_keep HZ.out hbl)
  replace HF := Lib.hid (HF.out.keep hbl)
  replace HN := Lib.hid (HN.out.keep hbl)
  refine (rints_of _ _ [2, 3] [2, 3] true _ HI (Lib.hid hl) (Lib.hid (by simp))).mono ?_
  rintro e w11 ⟨rfl, hb⟩
  replace HB := Lib.hid (below_keep hb HB.out)
  replace HD := Lib.hid (dgb_keep HD.out hb)
  replace HV := Lib.hid (HV.out.keep hb)
  replace HX := Lib.hid (dgb_keep HX.out hb)
  replace HJ := Lib.hid (HJ.out.keep hb)
  replace HY := Lib.hid (dgb_keep HY.out hb)
  replace HI := Lib.hid (HI.out.keep hb)
  replace HZ := Lib.hid (dgb_keep HZ.out hb)
  replace HF := Lib.hid (HF.out.keep hb)
  replace HN := Lib.hid (HN.out.keep hb)
  clear hb hl hbl
  obtain ⟨qHD0, qHD1, -, -⟩ := HD.out
  obtain ⟨qHX0, qHX1, -, -⟩ := HX.out
  obtain ⟨qHY0, qHY1, -, -⟩ := HY.out
  obtain ⟨qHZ0, qHZ1, -, -⟩ := HZ.out
  obtain ⟨A, eA, p0, p1⟩ := HF.out.at (k := 3) (by decide)
  cases eA
  have p2 : w11.cell? ⟨A.block, A.off + 6, none⟩ = some (.int .i64 2) := p0
  have p3 : w11.cell? ⟨A.block, A.off + 6 + 1, none⟩ = some (.int .i64 1) := p1
  have p4 : w11.cell? ⟨A.block, A.off + 7, none⟩ = some (.int .i64 1) := p1
  have hga := guard_ar
  have heq := eq_ar (2, 1) (2, 1) true (Lib.hid (by decide))
  simp only at heq
  go_wp2_with fail
  refine (HSA _ _ 3 3 exD exD true _ (Lib.hid ⟨_, rfl, HV.out⟩) (Lib.hid ⟨_, rfl, HV.out⟩) (Lib.hid (by decide))).mono ?_
  rintro e w12 ⟨rfl, hb⟩
  clear qHD0 qHD1 qHX0 qHX1 qHY0 qHY1 qHZ0 qHZ1
  replace HB := Lib.hid (below_keep hb HB.out)
  replace HD := Lib.hid (dgb_keep HD.out hb)
  replace HV := Lib.hid (HV.out.keep hb)
  replace HX := Lib.hid (dgb_keep HX.out hb)
  replace HJ := Lib.hid (HJ.out.keep hb)
  replace HY := Lib.hid (dgb_keep HY.out hb)
  replace HI := Lib.hid (HI.out.keep hb)
  replace HZ := Lib.hid (dgb_keep HZ.out hb)
  replace HF := Lib.hid (HF.out.keep hb)
  replace HN := Lib.hid (HN.out.keep hb)
  clear hb
  obtain ⟨qHD0, qHD1, -, -⟩ := HD.out
  obtain ⟨qHX0, qHX1, -, -⟩ := HX.out
  obtain ⟨qHY0, qHY1, -, -⟩ := HY.out
  obtain ⟨qHZ0, qHZ1, -, -⟩ := HZ.out
  clear p0 p1 p2 p3 p4
  go_wp2_with fail
  refine (HSA _ _ 3 3 exD exF false _ (Lib.hid ⟨_, rfl, HV.out⟩) (Lib.hid ⟨_, rfl, HF.out⟩) (Lib.hid (by decide))).mono ?_
  rintro e w13 ⟨rfl, hb⟩
  clear qHD0 qHD1 qHX0 qHX1 qHY0 qHY1 qHZ0 qHZ1
  replace HB := Lib.hid (below_keep hb HB.out)
  replace HD := Lib.hid (dgb_keep HD.out hb)
  replace HV := Lib.hid (HV.out.keep hb)
  replace HX := Lib.hid (dgb_keep HX.out hb)
  replace HJ := Lib.hid (HJ.out.keep hb)
  replace HY := Lib.hid (dgb_keep HY.out hb)
  replace HI := Lib.hid (HI.out.keep hb)
  replace HZ := Lib.hid (dgb_keep HZ.out hb)
  replace HF := Lib.hid (HF.out.keep hb)
  replace HN := Lib.hid (HN.out.keep hb)
  clear hb
  obtain ⟨qHD0, qHD1, -, -⟩ := HD.out
  obtain ⟨qHX0, qHX1, -, -⟩ := HX.out
  obtain ⟨qHY0, qHY1, -, -⟩ := HY.out
  obtain ⟨qHZ0, qHZ1, -, -⟩ := HZ.out
  go_wp2
  go_ret
  exact ⟨rfl, HB.out⟩
end Go.Proofs.Ytkmamdlhpbobhaa.dig
