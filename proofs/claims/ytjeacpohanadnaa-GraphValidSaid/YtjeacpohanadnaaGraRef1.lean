/-
  What the small functions of the reference of layer 11 return: bytes, Find, ports. Conditions: a text's length; graphs in memory.
-/
import Derived.Test.YtjeacpohanadnaaGraMem
import Derived.Test.YtjeacpohanadnaaRefLex1
namespace Go.Proofs.Ytjeacpohanadnaa.gra
open Go.RowKit lex

theorem Rw.get {α : Type} {c : Nat} {P : World → Addr → α → Prop} {w : World} {ao : Option Addr} {n cap : Nat} {l : List α} (h : Rw c P w (.slice ao n cap) l) {k : Nat} (hk : k < l.length) : ∃ A, ao = some A ∧ P w (A.add (k * c)) l[k] := by
  obtain ⟨ao', cap', e, _, _, hA⟩ := h
  cases e
  obtain ⟨A, rfl, h2⟩ := hA (by omega)
  exact ⟨A, rfl, h2 k hk⟩
set_option maxHeartbeats 1000000 in
theorem gplain_any (s : ByteArray) (w : World) (hs : s.size ≤ maxLen) :
    Calls Try.prog 58 #[.string s] w fun e w' => e = .returned (.bool (s.data.toList.all isPl)) ∧ w = w' := by
  unfold maxLen at hs
  obtain ⟨v, hv⟩ : ∃ v : Bool, s.data.toList.all isPl = v := ⟨_, rfl⟩
  rw [hv]
  have HV := Lib.hid hv
  clear hv
  go_enter Try.func58, Try.ntmps58
  go_wp2
  go_loop [3] (fun v => ∃ k : Nat, k ≤ s.size ∧ v = .int .i64 k ∧ (s.data.toList.take k).all isPl = true) (fun v => s.size - (intOf v).toNat)
  case atStart => exact ⟨0, Nat.zero_le _, rfl, rfl⟩
  case round =>
    obtain ⟨k, hk, rfl, hw⟩ := hrel
    have HW := Lib.hid hw
    clear hw
    by_cases hlt : k < s.size
    · by_cases h1 : (s[k].toNat : Int) < 32
      · have HP := Lib.hid (plain_bad hlt (by unfold isPl; simp; omega))
        go_wp2
        go_ret
        exact ⟨ret_bool (by rw [← HV.out, HP.out]), rfl⟩
      · by_cases h2 : 126 < (s[k].toNat : Int)
        · have HP := Lib.hid (plain_bad hlt (by unfold isPl; simp; omega))
          go_wp2
          go_ret
          exact ⟨ret_bool (by rw [← HV.out, HP.out]), rfl⟩
        · have HP := Lib.hid (plain_next HW.out hlt (by unfold isPl; simp; omega))
          go_wp2
          go_round
          case rel => exact ⟨k + 1, by omega, by go_num, HP.out⟩
          case measure => simp [intOf]; omega
    · obtain rfl : k = s.size := by omega
      have HP : Hid (s.data.toList.all isPl = true) := Lib.hid (by have := HW.out; rw [List.take_of_length_le (by rw [size_list]; omega)] at this; exact this)
      go_wp2
      go_ret
      exact ⟨ret_bool (by rw [← HV.out, HP.out]), rfl⟩
theorem gplain_of (s : ByteArray) (v : Bool) (w : World) (hs : s.size ≤ maxLen) (h : Hid (plainB s.data.toList = v)) :
    Calls Try.prog 58 #[.string s] w fun e w' => e = .returned (.bool v) ∧ w = w' := by rw [← h.out]; exact gplain_any s w hs
set_option maxRecDepth 100000 in
set_option maxHeartbeats 4000000 in
theorem gfind_of (v : Value) (g : Gr) (s : ByteArray) (R : Int) (w : World) (h : Hid (GrV w v g)) (hr : Hid (findV g s.data.toList = R)) :
    Calls Try.prog 12 #[v, .string s] w fun e w' => e = .returned (.int .i64 R) ∧ Below w.heap.size w w' := by
  obtain ⟨nv, ev, cv, rfl, hnl, hn, he, hc⟩ := h.out
  have HR : Hid (findG (g.ns.drop 0) s.data.toList 0 = R) := hr
  have hB := al1 w (.cells #[.string (bb g.nm), .bool g.dir, nv, ev, cv] 26)
  have HN := Lib.hid (hn.keep hB)
  clear hn he hc h hr hnl
  obtain ⟨ao, cap, rfl, hc, hm, _⟩ := id HN.out
  unfold maxLen at hm
  have hlm : g.ns.length ≤ 9223372036854775807 := by omega
  clear hc hm
  go_enter Try.func12, Try.ntmps12
  go_wp2_with fail
  go_loop [5] (fun iv => ∃ k : Nat, iv = .int .i64 k ∧ k ≤ g.ns.length ∧ findG (g.ns.drop k) s.data.toList k = R) (fun iv => g.ns.length - (intOf iv).toNat)
  case atStart => exact ⟨0, rfl, Nat.zero_le _, HR.out⟩
  case round =>
    obtain ⟨k, rfl, hk, hfe⟩ := hrel
    clear HR
    by_cases hlt : k < g.ns.length
    · rw [findG_at hlt] at hfe
      obtain ⟨A, rfl, q0, -⟩ := HN.out.get hlt
      obtain ⟨Y, hY⟩ : ∃ Y, bb g.ns[k].nm = Y := ⟨_, rfl⟩
      rw [hY] at q0
      have hY2 : Y.data.toList = g.ns[k].nm := by rw [← hY]
      have i0 : (0 : Int) ≤ (k : Int) := by omega
      have i1 : (k : Int) < (g.ns.length : Int) := by omega
      by_cases hxy : g.ns[k].nm = s.data.toList
      · have b1 : (Y.toList == s.toList) = true := by rw [ByteArray.toList_eq, ByteArray.toList_eq, hY2, beq_iff_eq]; exact hxy
        rw [if_pos hxy] at hfe
        subst hfe
        clear hY hY2 hxy
        go_wp2
        go_ret
        exact ⟨rfl, hB⟩
      · have b1 : (Y.toList == s.toList) = false := by rw [ByteArray.toList_eq, ByteArray.toList_eq, hY2, beq_eq_false_iff_ne]; exact hxy
        rw [if_neg hxy] at hfe
        have HF := Lib.hid hfe
        clear hY hY2 hxy hfe
        go_wp2
        go_round
        case rel => exact ⟨k + 1, by go_num, by omega, HF.out⟩
        case measure => simp [intOf]; omega
    · rw [findG_end (by omega)] at hfe
      subst hfe
      go_wp2
      go_ret
      exact ⟨rfl, hB⟩
end Go.Proofs.Ytjeacpohanadnaa.gra
