/-
  The walk of awake of layer 7, over the premise that the code answers as its plain functions say.
-/
import Derived.Test.YtgnhpjbkbefgpaaTreAwk
namespace Go.Proofs.Ytgnhpjbkbefgpaa.tre
open Go.RowKit lex

set_option maxRecDepth 100000 in
set_option maxHeartbeats 8000000 in
theorem awk (C : TreOk) : Awake := by
  intro w
  obtain ⟨bW, ⟨g1, t1⟩, ⟨g2, t2⟩, g3, t3⟩ := w8_facts w
  go_enter Try.func9, Try.ntmps9
  go_wp2_with fail
  show Calls Try.prog _ _ (W8 w) _
  have t1 := Lib.hid t1
  have t2 := Lib.hid t2
  have t3 := Lib.hid t3
  generalize W8 w = W at bW g1 t1 g2 t2 g3 t3 ⊢
  refine (C.rename _ T1 ⟨#[97]⟩ ⟨#[98]⟩ 6 _ t1 few1 (by decide) (by decide) (Lib.hid ren1)).mono ?_
  rintro e w1 ⟨v1, rfl, hu, hb1⟩
  have B1 := below_keep hb1 bW
  have g1 := at3_keep g1 hb1
  have t1 := Lib.hid (t1.out.keep hb1)
  have g2 := at3_keep g2 hb1
  have t2 := Lib.hid (t2.out.keep hb1)
  have g3 := at3_keep g3 hb1
  have t3 := Lib.hid (t3.out.keep hb1)
  clear hb1 bW
  obtain ⟨U1, hU1⟩ : ∃ U, renO T1 [97] [98] = U := ⟨_, rfl⟩
  rw [hU1] at hu
  have u1 := Lib.hid hu
  obtain ⟨bu1, rfl, -, hus⟩ := hu
  obtain ⟨uo1, uc1, rfl, -, -, -⟩ := hus
  obtain ⟨Z1, hZ1⟩ : ∃ Z, bb U1.name = Z := ⟨_, rfl⟩
  obtain ⟨z1, hz1⟩ : ∃ z, U1.dir = z := ⟨_, rfl⟩
  rw [hZ1, hz1] at u1 ⊢
  obtain ⟨g10, g11, g12⟩ := id g1
  obtain ⟨g20, g21, g22⟩ := id g2
  obtain ⟨g30, g31, g32⟩ := id g3
  have hk1 := al1 w1 (.cells #[.string Z1, .bool z1, .slice uo1 U1.body.length uc1] 24)
  have Bk1 := below_keep hk1 B1
  have g1 := at3_keep g1 hk1
  have t1 := Lib.hid (t1.out.keep hk1)
  have g2 := at3_keep g2 hk1
  have t2 := Lib.hid (t2.out.keep hk1)
  have g3 := at3_keep g3 hk1
  have t3 := Lib.hid (t3.out.keep hk1)
  have u1 := Lib.hid (u1.out.keep hk1)
  have y1 := at3_new w1 Z1 z1 (.slice uo1 U1.body.length uc1) 24
  clear hk1 B1
  obtain ⟨g15, g16, g17⟩ := id g1
  obtain ⟨g25, g26, g27⟩ := id g2
  obtain ⟨g35, g36, g37⟩ := id g3
  go_wp2_with fail
  clear g10 g11 g12 g15 g16 g17
  clear g20 g21 g22 g25 g26 g27
  clear g30 g31 g32 g35 g36 g37
  refine (C.rename _ T1 ⟨#[97]⟩ ⟨#[99]⟩ 0 _ t1 few1 (by decide) (by decide) (Lib.hid ren2)).mono ?_
  rintro e w2 ⟨v2, rfl, hu, hb2⟩
  have B2 := below_keep hb2 Bk1
  have g1 := at3_keep g1 hb2
  have t1 := Lib.hid (t1.out.keep hb2)
  have g2 := at3_keep g2 hb2
  have t2 := Lib.hid (t2.out.keep hb2)
  have g3 := at3_keep g3 hb2
  have t3 := Lib.hid (t3.out.keep hb2)
  clear u1 y1
  clear hb2 Bk1
  have hu : TrV _ _ (renO T1 [97] [99]) := hu
  obtain ⟨U2, hU2⟩ : ∃ U, renO T1 [97] [99] = U := ⟨_, rfl⟩
  rw [hU2] at hu
  have u2 := Lib.hid hu
  obtain ⟨bu2, rfl, -, hus⟩ := hu
  obtain ⟨uo2, uc2, rfl, -, -, -⟩ := hus
  obtain ⟨Z2, hZ2⟩ : ∃ Z, bb U2.name = Z := ⟨_, rfl⟩
  obtain ⟨z2, hz2⟩ : ∃ z, U2.dir = z := ⟨_, rfl⟩
  rw [hZ2, hz2] at u2 ⊢
  obtain ⟨g10, g11, g12⟩ := id g1
  obtain ⟨g20, g21, g22⟩ := id g2
  obtain ⟨g30, g31, g32⟩ := id g3
  have hk2 := al1 w2 (.cells #[.string Z2, .bool z2, .slice uo2 U2.body.length uc2] 24)
  have Bk2 := below_keep hk2 B2
  have g1 := at3_keep g1 hk2
  have t1 := Lib.hid (t1.out.keep hk2)
  have g2 := at3_keep g2 hk2
  have t2 := Lib.hid (t2.out.keep hk2)
  have g3 := at3_keep g3 hk2
  have t3 := Lib.hid (t3.out.keep hk2)
  have u2 := Lib.hid (u2.out.keep hk2)
  have y2 := at3_new w2 Z2 z2 (.slice uo2 U2.body.length uc2) 24
  clear hk2 B2
  obtain ⟨g15, g16, g17⟩ := id g1
  obtain ⟨g25, g26, g27⟩ := id g2
  obtain ⟨g35, g36, g37⟩ := id g3
  go_wp2_with fail
  clear g10 g11 g12 g15 g16 g17
  clear g20 g21 g22 g25 g26 g27
  clear g30 g31 g32 g35 g36 g37
  have hq := out2
  rw [hU2] at hq
  subst hq
  refine (C.valid _ T1 0 _ t1 few1 (Lib.hid val1)).mono ?_
  rintro e w3 ⟨rfl, hb3⟩
  have B3 := below_keep hb3 Bk2
  have g1 := at3_keep g1 hb3
  have t1 := Lib.hid (t1.out.keep hb3)
  have g2 := at3_keep g2 hb3
  have t2 := Lib.hid (t2.out.keep hb3)
  have g3 := at3_keep g3 hb3
  have t3 := Lib.hid (t3.out.keep hb3)
  have y2 := at3_keep y2 hb3
  have u2 := Lib.hid (u2.out.keep hb3)
  clear hb3 Bk2
  obtain ⟨g10, g11, g12⟩ := id g1
  obtain ⟨g20, g21, g22⟩ := id g2
  obtain ⟨g30, g31, g32⟩ := id g3
  obtain ⟨y20, y21, y22⟩ := id y2
  go_wp2_with fail
  clear g10 g11 g12
  clear g20 g21 g22
  clear g30 g31 g32
  clear y20 y21 y22
  refine (C.valid _ T2 1 _ t2 few2 (Lib.hid val2)).mono ?_
  rintro e w4 ⟨rfl, hb4⟩
  have B4 := below_keep hb4 B3
  have g1 := at3_keep g1 hb4
  have t1 := Lib.hid (t1.out.keep hb4)
  have g2 := at3_keep g2 hb4
  have t2 := Lib.hid (t2.out.keep hb4)
  have g3 := at3_keep g3 hb4
  have t3 := Lib.hid (t3.out.keep hb4)
  have y2 := at3_keep y2 hb4
  have u2 := Lib.hid (u2.out.keep hb4)
  clear hb4 B3
  obtain ⟨g10, g11, g12⟩ := id g1
  obtain ⟨g20, g21, g22⟩ := id g2
  obtain ⟨g30, g31, g32⟩ := id g3
  obtain ⟨y20, y21, y22⟩ := id y2
  go_wp2_with fail
  clear g10 g11 g12
  clear g20 g21 g22
  clear g30 g31 g32
  clear y20 y21 y22
  refine (C.valid _ T3 5 _ t3 few3 (Lib.hid val3)).mono ?_
  rintro e w5 ⟨rfl, hb5⟩
  have B5 := below_keep hb5 B4
  have g1 := at3_keep g1 hb5
  have t1 := Lib.hid (t1.out.keep hb5)
  have g2 := at3_keep g2 hb5
  have t2 := Lib.hid (t2.out.keep hb5)
  have g3 := at3_keep g3 hb5
  have t3 := Lib.hid (t3.out.keep hb5)
  have y2 := at3_keep y2 hb5
  have u2 := Lib.hid (u2.out.keep hb5)
  clear hb5 B4
  obtain ⟨g10, g11, g12⟩ := id g1
  obtain ⟨g20, g21, g22⟩ := id g2
  obtain ⟨g30, g31, g32⟩ := id g3
  obtain ⟨y20, y21, y22⟩ := id y2
  go_wp2_with fail
  clear g10 g11 g12
  clear g20 g21 g22
  clear g30 g31 g32
  clear y20 y21 y22
  refine (C.count _ T1 _ t1 few1).mono ?_
  rintro e w6 ⟨rfl, hb6⟩
  have B6 := below_keep hb6 B5
  have g1 := at3_keep g1 hb6
  have t1 := Lib.hid (t1.out.keep hb6)
  have g2 := at3_keep g2 hb6
  have t2 := Lib.hid (t2.out.keep hb6)
  have g3 := at3_keep g3 hb6
  have t3 := Lib.hid (t3.out.keep hb6)
  have y2 := at3_keep y2 hb6
  have u2 := Lib.hid (u2.out.keep hb6)
  clear hb6 B5
  obtain ⟨g10, g11, g12⟩ := id g1
  obtain ⟨g20, g21, g22⟩ := id g2
  obtain ⟨g30, g31, g32⟩ := id g3
  obtain ⟨y20, y21, y22⟩ := id y2
  rw [cnt1]
  go_wp2_with fail
  clear g10 g11 g12
  clear g20 g21 g22
  clear g30 g31 g32
  clear y20 y21 y22
  refine (C.names _ T1 _ _ t1 few1 (Lib.hid nms1)).mono ?_
  rintro e w7 ⟨v7, rfl, n7, hb7⟩
  have B7 := below_keep hb7 B6
  have g1 := at3_keep g1 hb7
  have t1 := Lib.hid (t1.out.keep hb7)
  have g2 := at3_keep g2 hb7
  have t2 := Lib.hid (t2.out.keep hb7)
  have g3 := at3_keep g3 hb7
  have t3 := Lib.hid (t3.out.keep hb7)
  have y2 := at3_keep y2 hb7
  have u2 := Lib.hid (u2.out.keep hb7)
  clear hb7 B6
  obtain ⟨g10, g11, g12⟩ := id g1
  obtain ⟨g20, g21, g22⟩ := id g2
  obtain ⟨g30, g31, g32⟩ := id g3
  obtain ⟨y20, y21, y22⟩ := id y2
  go_wp2_with fail
  clear g10 g11 g12
  clear g20 g21 g22
  clear g30 g31 g32
  clear y20 y21 y22
  have hk7 := al1 w7 (.cells #[.string ⟨#[97]⟩, .string ⟨#[98]⟩] 9)
  have Bk7 := below_keep hk7 B7
  have g1 := at3_keep g1 hk7
  have t1 := Lib.hid (t1.out.keep hk7)
  have g2 := at3_keep g2 hk7
  have t2 := Lib.hid (t2.out.keep hk7)
  have g3 := at3_keep g3 hk7
  have t3 := Lib.hid (t3.out.keep hk7)
  have y2 := at3_keep y2 hk7
  have u2 := Lib.hid (u2.out.keep hk7)
  have n7 := n7.keep hk7
  have m7 := nl_two w7 [97] [98] 9
  clear hk7 B7
  refine (same_of _ _ [[97], [98]] [[97], [98]] true _ (Lib.hid n7) (Lib.hid m7) (Lib.hid (by decide))).mono ?_
  rintro e w8 ⟨rfl, hb8⟩
  have B8 := below_keep hb8 Bk7
  have g1 := at3_keep g1 hb8
  have t1 := Lib.hid (t1.out.keep hb8)
  have g2 := at3_keep g2 hb8
  have t2 := Lib.hid (t2.out.keep hb8)
  have g3 := at3_keep g3 hb8
  have t3 := Lib.hid (t3.out.keep hb8)
  have y2 := at3_keep y2 hb8
  have u2 := Lib.hid (u2.out.keep hb8)
  clear n7 m7
  clear hb8 Bk7
  obtain ⟨g10, g11, g12⟩ := id g1
  obtain ⟨g20, g21, g22⟩ := id g2
  obtain ⟨g30, g31, g32⟩ := id g3
  obtain ⟨y20, y21, y22⟩ := id y2
  go_wp2_with fail
  clear g10 g11 g12
  clear g20 g21 g22
  clear g30 g31 g32
  clear y20 y21 y22
  refine (C.names _ T4 _ _ u2 few4 (Lib.hid nms4)).mono ?_
  rintro e w9 ⟨v9, rfl, n9, hb9⟩
  have B9 := below_keep hb9 B8
  have g1 := at3_keep g1 hb9
  have t1 := Lib.hid (t1.out.keep hb9)
  have g2 := at3_keep g2 hb9
  have t2 := Lib.hid (t2.out.keep hb9)
  have g3 := at3_keep g3 hb9
  have t3 := Lib.hid (t3.out.keep hb9)
  have y2 := at3_keep y2 hb9
  have u2 := Lib.hid (u2.out.keep hb9)
  clear hb9 B8
  go_wp2_with fail
  have hk9 := al1 w9 (.cells #[.string ⟨#[99]⟩, .string ⟨#[98]⟩] 9)
  have Bk9 := below_keep hk9 B9
  have n9 := n9.keep hk9
  have m9 := nl_two w9 [99] [98] 9
  clear hk9 B9
  refine (same_of _ _ [[99], [98]] [[99], [98]] true _ (Lib.hid n9) (Lib.hid m9) (Lib.hid (by decide))).mono ?_
  rintro e w10 ⟨rfl, hb10⟩
  have B10 := below_keep hb10 Bk9
  clear hb10 Bk9
  go_wp2
  go_ret
  exact ⟨rfl, B10⟩
end Go.Proofs.Ytgnhpjbkbefgpaa.tre
