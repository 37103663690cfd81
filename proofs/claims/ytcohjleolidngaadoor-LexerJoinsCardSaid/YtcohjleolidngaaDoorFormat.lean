/-
  What Format of layer 1 and of its reference return: both the same text, for every int. Conditions: the table of powers of ten holds what the library lays.
-/
import Derived.Test.YtcohjleolidngaaDoorText
namespace Go.Proofs.YtcohjleolidngaaDoor
open Go.RowKit Go.Sort

/-- The text of n thousandths. -/
def fmtL (n : Int) : List UInt8 :=
  (if n < 0 then [45] else []) ++ Lib.decDigits (n.natAbs / 1000) ++ (if n.natAbs % 1000 = 0 then [] else 46 :: Lib.trimRightB ((Lib.decDigits (1000 + n.natAbs % 1000)).drop 1) 48)

set_option maxHeartbeats 1000000 in
theorem format_any (n : Int) (w : World) (h0 : -9223372036854775808 ≤ n) (h1 : n ≤ 9223372036854775807) (htab : Tab w) :
    Calls Tryd.prog 18 #[.int .i64 n] w fun e w' => e = .returned (.string ⟨(fmtL n).toArray⟩) ∧ Below w.heap.size w w' := by
  obtain ⟨m, hm⟩ : ∃ m, n.natAbs = m := ⟨_, rfl⟩
  have hm1 : m ≤ 9223372036854775808 := by omega
  obtain ⟨l1, e1⟩ : ∃ l, Lib.decDigits (m / 1000) = l := ⟨_, rfl⟩
  obtain ⟨l2, e2⟩ : ∃ l, Lib.decDigits (1000 + m % 1000) = l := ⟨_, rfl⟩
  obtain ⟨l3, e3⟩ : ∃ l, Lib.trimRightB (l2.drop 1) 48 = l := ⟨_, rfl⟩
  have g1 : l1.length ≤ 20 := by rw [← e1]; exact dec_len _ (by omega)
  have g2 : l2.length ≤ 20 := by rw [← e2]; exact dec_len _ (by omega)
  have g3 : 1 ≤ l2.length := by rw [← e2, Lib.decDigits_length]; exact Lib.nDigits_pos _
  have HF : Hid (fmtL n = (if n < 0 then [45] else []) ++ l1 ++ (if m % 1000 = 0 then [] else 46 :: l3)) := Lib.hid (by rw [fmtL, hm, e1, e2, e3])
  have HM := Lib.hid hm
  have HT := Lib.hid htab
  have E1 := Lib.hid e1
  have E2 := Lib.hid e2
  clear hm htab e1 e2
  have g4 : l3.length ≤ 20 := by rw [← e3]; have := trim_le (l2.drop 1) 48; rw [List.length_drop] at this; omega
  have E3 : Hid (Lib.trimRightB ((⟨l2.toArray⟩ : ByteArray).extract 1 l2.length).data.toList 48 = l3) := Lib.hid (by rw [ba_drop]; exact e3)
  clear e3
  by_cases hn : n < 0 <;> by_cases hr : m % 1000 = 0
  · go_enter Tryd.func18, Tryd.ntmps18
    go_wp2_with (go_at_call 35; refine (magnitude_of _ m _ (by omega) (by omega) HM).mono ?_; rintro e w' ⟨rfl, rfl⟩)
    refine (formatUint_pub _ _ l1 (by omega) (by omega) _ HT (by simp) E1).mono ?_
    rintro e w1 ⟨rfl, hb⟩
    go_wp2
    go_ret
    refine ⟨?_, hb⟩
    show Ending.returned (Value.string ((⟨[45].toArray⟩ : ByteArray) ++ ⟨l1.toArray⟩)) = _
    rw [HF.out, if_pos hn, if_pos hr, ba_app, List.append_nil]
  · go_enter Tryd.func18, Tryd.ntmps18
    go_wp2_with (go_at_call 35; refine (magnitude_of _ m _ (by omega) (by omega) HM).mono ?_; rintro e w' ⟨rfl, rfl⟩)
    refine (formatUint_pub _ _ l1 (by omega) (by omega) _ HT (by simp) E1).mono ?_
    rintro e w1 ⟨rfl, hb⟩
    go_wp2_with fail
    refine (formatUint_pub _ _ l2 (by omega) (by omega) _ (Lib.hid (tab_below HT.out hb)) (by simp) E2).mono ?_
    rintro e w2 ⟨rfl, hb2⟩
    go_wp2_with fail
    refine (trimRight_of _ l3 _ (by have := ba_drop_size l2 1; omega) E3).mono ?_
    rintro e w' ⟨rfl, rfl⟩
    go_wp2
    go_ret
    refine ⟨?_, hb.trans (hb2.mono hb.size)⟩
    show Ending.returned (Value.string (((⟨[45].toArray⟩ : ByteArray) ++ ⟨l1.toArray⟩) ++ ⟨[46].toArray⟩ ++ ⟨l3.toArray⟩)) = _
    rw [HF.out, if_pos hn, if_neg hr, ba_app, ba_app, ba_app, List.append_assoc ([45] ++ l1)]
    rfl
  · go_enter Tryd.func18, Tryd.ntmps18
    go_wp2_with (go_at_call 35; refine (magnitude_of _ m _ (by omega) (by omega) HM).mono ?_; rintro e w' ⟨rfl, rfl⟩)
    refine (formatUint_pub _ _ l1 (by omega) (by omega) _ HT (by simp) E1).mono ?_
    rintro e w1 ⟨rfl, hb⟩
    go_wp2
    go_ret
    refine ⟨?_, hb⟩
    show Ending.returned (Value.string ⟨l1.toArray⟩) = _
    rw [HF.out, if_neg (by omega), if_pos hr, List.append_nil, List.nil_append]
  · go_enter Tryd.func18, Tryd.ntmps18
    go_wp2_with (go_at_call 35; refine (magnitude_of _ m _ (by omega) (by omega) HM).mono ?_; rintro e w' ⟨rfl, rfl⟩)
    refine (formatUint_pub _ _ l1 (by omega) (by omega) _ HT (by simp) E1).mono ?_
    rintro e w1 ⟨rfl, hb⟩
    go_wp2_with fail
    refine (formatUint_pub _ _ l2 (by omega) (by omega) _ (Lib.hid (tab_below HT.out hb)) (by simp) E2).mono ?_
    rintro e w2 ⟨rfl, hb2⟩
    go_wp2_with fail
    refine (trimRight_of _ l3 _ (by have := ba_drop_size l2 1; omega) E3).mono ?_
    rintro e w' ⟨rfl, rfl⟩
    go_wp2
    go_ret
    refine ⟨?_, hb.trans (hb2.mono hb.size)⟩
    show Ending.returned (Value.string ((⟨l1.toArray⟩ : ByteArray) ++ ⟨[46].toArray⟩ ++ ⟨l3.toArray⟩)) = _
    rw [HF.out, if_neg (by omega), if_neg hr, ba_app, ba_app, List.nil_append, List.append_assoc l1]
    rfl
end Go.Proofs.YtcohjleolidngaaDoor
