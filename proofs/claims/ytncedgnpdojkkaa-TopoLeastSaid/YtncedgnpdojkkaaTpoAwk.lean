/-
  What the code's functions of layer 15 have to return, and the example of its statements and the walk of TopoLeast over that. No condition.
-/
import Derived.Test.YtncedgnpdojkkaaTpoRef4
namespace Go.Proofs.Ytncedgnpdojkkaa.tpo
open Go.RowKit dig

def OrdSays : Prop := ∀ (v : Value) (n : Int) (l : List Ar) (L : List Int) (R : Bool) (w : World), Hid (DgV w v n l) → Hid (ordV n l = (L, R)) → Calls Try.prog 9 #[v] w (NbOut L R w)
def LonSays : Prop := ∀ (v : Value) (n : Int) (l : List Ar) (L : List Int) (R : Bool) (w : World), Hid (DgV w v n l) → Hid (lonV n l = (L, R)) → Calls Try.prog 11 #[v] w (NbOut L R w)
def RchSays : Prop := ∀ (v : Value) (n x : Int) (l : List Ar) (R : List Int) (w : World), Hid (DgV w v n l) → Hid (rchV n l x = R) → Calls Try.prog 15 #[v, .int .i64 x] w (InsOut R w)
def StrSays : Prop := ∀ (v : Value) (n : Int) (l : List Ar) (R : List (List Int)) (w : World), Hid (DgV w v n l) → Hid (strV n l = R) → Calls Try.prog 18 #[v] w (MrfOut R w)
theorem str_weak (HS : StrSays) (v : Value) (n : Int) (l : List Ar) (R : List (List Int)) (w : World) (h : Hid (DgV w v n l)) (hr : Hid (strV n l = R)) : Calls Try.prog 18 #[v] w (MrOut R w) :=
  (HS v n l R w h hr).mono fun _ _ ⟨u, he, hl, _, hb⟩ => ⟨u, he, hl, hb⟩
def AwakeSays : Prop := ∀ w : World, Calls Try.prog 14 #[] w fun e w' => e = .returned (.bool true) ∧ Below w.heap.size w w'
theorem ins_lit (w : World) (l : List Int) (hl : l.length ≤ maxLen) : Ins (w.alloc (.cells (l.flatMap inC).toArray 3)) (.slice (some ⟨w.heap.size, 0, none⟩) l.length l.length) l :=
  lit_rw (f := inC) (fun _ => rfl) (fun b o x _ hj => by have := hj 0 (by decide); exact this) (blk_new ..) (by simp) hl
theorem ars_lit (w : World) (l : List Ar) (hl : l.length ≤ maxLen) : Ars (w.alloc (.cells (l.flatMap arC).toArray 37)) (.slice (some ⟨w.heap.size, 0, none⟩) l.length l.length) l :=
  lit_rw (f := arC) (fun _ => rfl) (fun b o x _ hj => ⟨by have := hj 0 (by decide); exact this, by have := hj 1 (by decide); exact this⟩) (blk_new ..) (by simp) hl
abbrev exT : List Ar := [(3, 1), (1, 0)]
theorem x_ord : ordV 4 exT = ([2, 3, 1, 0], true) := by decide +kernel
theorem x_rch : rchV 4 exT 3 = [0, 1, 3] := by decide +kernel
theorem x_str : (strV 4 exT).length = 4 := by decide +kernel
set_option maxRecDepth 100000 in
set_option maxHeartbeats 8000000 in
theorem awake_of (HO : OrdSays) (HR : RchSays) (HS : StrSays) : AwakeSays := by
  intro w
  obtain ⟨W1, hW1⟩ : ∃ W1, w.alloc (.cells #[.int .i64 3, .int .i64 1, .int .i64 1, .int .i64 0] 37) = W1 := ⟨_, rfl⟩
  obtain ⟨W2, hW2⟩ : ∃ W2, W1.alloc (.cells #[.int .i64 4, .slice (some ⟨w.heap.size, 0, none⟩) 2 2] 24) = W2 := ⟨_, rfl⟩
  have s1 : W1.heap.size = w.heap.size + 1 := by rw [← hW1]; simp
  have HB : Hid (Below w.heap.size w W2) := Lib.hid (by rw [← hW2, ← hW1]; exact al2 ..)
  have HV : Hid (Ars W2 (.slice (some ⟨w.heap.size, 0, none⟩) 2 2) exT) := Lib.hid (by rw [← hW2, ← hW1]; exact (ars_lit w exT (by decide)).keep (al1 ..))
  have HD : Hid (dgb W2 (w.heap.size + 1) 4 (.slice (some ⟨w.heap.size, 0, none⟩) 2 2)) := Lib.hid (by rw [← hW2, ← s1]; exact dgb_new ..)
  have HW1 := Lib.hid hW1
  have HW2 := Lib.hid hW2
  clear hW1 hW2 s1
  go_enter Try.func14, Try.ntmps14
  go_wp2_with fail
  rw [HW1.out, HW2.out]
  obtain ⟨g0, hg0⟩ : ∃ g, w.heap.size = g := ⟨_, rfl⟩
  rw [hg0] at HD HV
  try simp only [hg0]
  have HG0 := Lib.hid hg0
  clear hg0 HW1 HW2 W1
  obtain ⟨c0, c1, -, -⟩ := HD.out
  refine (HO _ 4 exT [2, 3, 1, 0] true W2 (Lib.hid ⟨_, rfl, HV.out⟩) (Lib.hid x_ord)).mono ?_
  rintro e w3 ⟨v1, rfl, hi1, hb⟩
  have HB3 := Lib.hid (below_keep hb HB.out)
  have HV3 := Lib.hid (HV.out.keep hb)
  have HD3 := Lib.hid (dgb_keep HD.out hb)
  have HI1 := Lib.hid hi1
  clear hb hi1 HB HV HD c0 c1
  obtain ⟨W4, hW4⟩ : ∃ W4, w3.alloc (.cells #[.int .i64 2, .int .i64 3, .int .i64 1, .int .i64 0] 3) = W4 := ⟨_, rfl⟩
  have HB4 : Hid (Below w.heap.size w W4) := Lib.hid (by rw [← hW4]; exact below_keep (al1 ..) HB3.out)
  have HV4 : Hid (Ars W4 (.slice (some ⟨g0, 0, none⟩) 2 2) exT) := Lib.hid (by rw [← hW4]; exact HV3.out.keep (al1 ..))
  have HD4 : Hid (dgb W4 (g0 + 1) 4 (.slice (some ⟨g0, 0, none⟩) 2 2)) := Lib.hid (by rw [← hW4]; exact dgb_keep HD3.out (al1 ..))
  have HI2 : Hid (Ins W4 v1 [2, 3, 1, 0]) := Lib.hid (by rw [← hW4]; exact HI1.out.keep (al1 ..))
  have HI3 : Hid (Ins W4 (.slice (some ⟨w3.heap.size, 0, none⟩) 4 4) [2, 3, 1, 0]) := Lib.hid (by rw [← hW4]; exact ins_lit w3 [2, 3, 1, 0] (by decide))
  have HW4 := Lib.hid hW4
  clear hW4 HB3 HV3 HD3 HI1
  go_wp2_with fail
  rw [HW4.out]
  refine (tsame_of _ _ [2, 3, 1, 0] [2, 3, 1, 0] true W4 HI2 HI3 (Lib.hid (by decide))).mono ?_
  rintro e w5 ⟨rfl, hb⟩
  have HB5 := Lib.hid (below_keep hb HB4.out)
  have HV5 := Lib.hid (HV4.out.keep hb)
  have HD5 := Lib.hid (dgb_keep HD4.out hb)
  clear hb HB4 HV4 HD4 HI2 HI3 HW4
  obtain ⟨c0, c1, -, -⟩ := HD5.out
  go_wp2_with fail
  refine (HR _ 4 3 exT [0, 1, 3] w5 (Lib.hid ⟨_, rfl, HV5.out⟩) (Lib.hid x_rch)).mono ?_
  rintro e w6 ⟨v2, rfl, hi1, hb⟩
  have HB6 := Lib.hid (below_keep hb HB5.out)
  have HV6 := Lib.hid (HV5.out.keep hb)
  have HD6 := Lib.hid (dgb_keep HD5.out hb)
  have HI1 := Lib.hid hi1
  clear hb hi1 HB5 HV5 HD5 c0 c1
  obtain ⟨W7, hW7⟩ : ∃ W7, w6.alloc (.cells #[.int .i64 0, .int .i64 1, .int .i64 3] 3) = W7 := ⟨_, rfl⟩
  have HB7 : Hid (Below w.heap.size w W7) := Lib.hid (by rw [← hW7]; exact below_keep (al1 ..) HB6.out)
  have HV7 : Hid (Ars W7 (.slice (some ⟨g0, 0, none⟩) 2 2) exT) := Lib.hid (by rw [← hW7]; exact HV6.out.keep (al1 ..))
  have HD7 : Hid (dgb W7 (g0 + 1) 4 (.slice (some ⟨g0, 0, none⟩) 2 2)) := Lib.hid (by rw [← hW7]; exact dgb_keep HD6.out (al1 ..))
  have HI2 : Hid (Ins W7 v2 [0, 1, 3]) := Lib.hid (by rw [← hW7]; exact HI1.out.keep (al1 ..))
  have HI3 : Hid (Ins W7 (.slice (some ⟨w6.heap.size, 0, none⟩) 3 3) [0, 1, 3]) := Lib.hid (by rw [← hW7]; exact ins_lit w6 [0, 1, 3] (by decide))
  have HW7 := Lib.hid hW7
  clear hW7 HB6 HV6 HD6 HI1
  go_wp2_with fail
  rw [HW7.out]
  refine (tsame_of _ _ [0, 1, 3] [0, 1, 3] true W7 HI2 HI3 (Lib.hid (by decide))).mono ?_
  rintro e w8 ⟨rfl, hb⟩
  have HB8 := Lib.hid (below_keep hb HB7.out)
  have HV8 := Lib.hid (HV7.out.keep hb)
  have HD8 := Lib.hid (dgb_keep HD7.out hb)
  clear hb HB7 HV7 HD7 HI2 HI3 HW7
  obtain ⟨c0, c1, -, -⟩ := HD8.out
  go_wp2_with fail
  refine (str_weak HS _ 4 exT _ w8 (Lib.hid ⟨_, rfl, HV8.out⟩) (Lib.hid rfl)).mono ?_
  rintro e w9 ⟨v3, rfl, hi1, hb⟩
  obtain ⟨ao, cap, rfl, -, -, -⟩ := id hi1
  rw [x_str] at hi1 ⊢
  have HB9 := Lib.hid (below_keep hb HB8.out)
  clear hi1 hb c0 c1
  go_wp2
  go_ret
  exact ⟨rfl, HB9.out⟩

set_option maxRecDepth 100000 in
set_option maxHeartbeats 8000000 in
theorem wleast (HA : AwakeSays) (HO : OrdSays) (HLn : LonSays) (v : Value) (n : Int) (l : List Ar) (w : World) (h : Hid (DgV w v n l)) :
    Calls Try.prog 3 #[v] w fun e w' => e = .returned (.bool true) ∧ Below w.heap.size w w' := by
  obtain ⟨av, rfl, hl⟩ := id h.out
  obtain ⟨lo, lc, rfl, -, -, -⟩ := id hl
  obtain ⟨L, b, hb0⟩ : ∃ L b, ordV n l = (L, b) := ⟨_, _, rfl⟩
  obtain ⟨D, b2, hb2⟩ : ∃ D b2, lonV n l = (D, b2) := ⟨_, _, rfl⟩
  have HOV := Lib.hid hb0
  have HLV := Lib.hid hb2
  have HA0 := Lib.hid hl
  obtain ⟨W1, hW1⟩ : ∃ W1, w.alloc (.cells #[.int .i64 n, .slice lo l.length lc] 24) = W1 := ⟨_, rfl⟩
  have HB : Hid (Below w.heap.size w W1) := Lib.hid (by rw [← hW1]; exact al1 ..)
  have HD : Hid (dgb W1 w.heap.size n (.slice lo l.length lc)) := Lib.hid (by rw [← hW1]; exact dgb_new ..)
  have HW1 := Lib.hid hW1
  clear hW1 hl h hb0 hb2
  go_enter Try.func3, Try.ntmps3
  go_wp2_with fail
  rw [HW1.out]
  obtain ⟨g0, hg0⟩ : ∃ g, w.heap.size = g := ⟨_, rfl⟩
  rw [hg0] at HD
  try simp only [hg0]
  have HG0 := Lib.hid hg0
  clear hg0 HW1
  refine (HO _ n l L b W1 (Lib.hid ⟨_, rfl, HA0.out.keep HB.out⟩) HOV).mono ?_
  rintro e w2 ⟨v1, rfl, hi, hb⟩
  have HB2 := Lib.hid (below_keep hb HB.out)
  have HD2 := Lib.hid (dgb_keep HD.out hb)
  have HI1 := Lib.hid hi
  clear hb hi HB HD
  obtain ⟨c0, c1, -, -⟩ := HD2.out
  go_wp2_with fail
  refine (tord_of _ n l L b w2 (Lib.hid ⟨_, rfl, HA0.out.keep HB2.out⟩) HOV).mono ?_
  rintro e w3 ⟨v2, rfl, hi, hb⟩
  have HB3 := Lib.hid (below_keep hb HB2.out)
  have HD3 := Lib.hid (dgb_keep HD2.out hb)
  have HI1' := Lib.hid (HI1.out.keep hb)
  have HI2 := Lib.hid hi
  clear hb hi HB2 HD2 HI1 c0 c1
  obtain ⟨c0, c1, -, -⟩ := HD3.out
  go_wp2_with fail
  refine (HLn _ n l D b2 w3 (Lib.hid ⟨_, rfl, HA0.out.keep HB3.out⟩) HLV).mono ?_
  rintro e w4 ⟨v3, rfl, hi, hb⟩
  have HB4 := Lib.hid (below_keep hb HB3.out)
  have HD4 := Lib.hid (dgb_keep HD3.out hb)
  have HI14 := Lib.hid (HI1'.out.keep hb)
  have HI24 := Lib.hid (HI2.out.keep hb)
  have HI3 := Lib.hid hi
  clear hb hi HB3 HD3 HI1' HI2 c0 c1
  obtain ⟨c0, c1, -, -⟩ := HD4.out
  go_wp2_with fail
  refine (tlong_of _ n l D b2 w4 (Lib.hid ⟨_, rfl, HA0.out.keep HB4.out⟩) HLV).mono ?_
  rintro e w5 ⟨v4, rfl, hi, hb⟩
  have HB5 := Lib.hid (below_keep hb HB4.out)
  have HI15 := Lib.hid (HI14.out.keep hb)
  have HI25 := Lib.hid (HI24.out.keep hb)
  have HI35 := Lib.hid (HI3.out.keep hb)
  have HI4 := Lib.hid hi
  clear hb hi HB4 HD4 HI14 HI24 HI3 c0 c1
  have e1 : (b == b) = true := by simp
  have e2 : (b2 == b2) = true := by simp
  go_wp2_with fail
  refine (tsame_of _ _ L L true w5 HI15 HI25 (Lib.hid (by simp))).mono ?_
  rintro e w6 ⟨rfl, hb⟩
  have HB6 := Lib.hid (below_keep hb HB5.out)
  have HI36 := Lib.hid (HI35.out.keep hb)
  have HI46 := Lib.hid (HI4.out.keep hb)
  clear hb HB5 HI15 HI25 HI35 HI4
  go_wp2_with fail
  refine (tsame_of _ _ D D true w6 HI36 HI46 (Lib.hid (by simp))).mono ?_
  rintro e w7 ⟨rfl, hb⟩
  have HB7 := Lib.hid (below_keep hb HB6.out)
  clear hb HB6 HI36 HI46
  go_wp2_with fail
  refine (HA _).mono ?_
  rintro e w8 ⟨rfl, hb⟩
  go_wp2
  go_ret
  exact ⟨rfl, below_keep hb HB7.out⟩
end Go.Proofs.Ytncedgnpdojkkaa.tpo
