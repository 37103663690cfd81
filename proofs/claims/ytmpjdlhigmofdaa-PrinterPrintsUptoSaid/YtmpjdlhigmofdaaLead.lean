/-
  What leadingDigits of layer 1 returns: the number that the digits at the beginning make, as far as 268436, and how many they are. Conditions: none but a string's length.
-/
import Derived.Test.YtmpjdlhigmofdaaArith
import Derived.Test.YtmpjdlhigmofdaaDig
namespace Go.Proofs.Ytmpjdlhigmofdaa
open Go.RowKit

theorem dig_at (s : ByteArray) (k : Nat) (h : k < s.size) : s.data.toList[k]? = some s[k] := by
  rw [List.getElem?_eq_getElem (by simpa using h)]; rfl
theorem take_one (s : ByteArray) (k : Nat) (h : k < s.size) : s.data.toList.take (k + 1) = s.data.toList.take k ++ [s[k]] := by
  rw [take_snoc _ k (by simpa using h)]; rfl

theorem lead_here (s : ByteArray) (k v fv fc : Nat) (hk : k ≤ s.size) (h1 : (s.data.toList.take k).all isDig = true) (h2 : v = min (valL (s.data.toList.take k)) 268436) (h3 : min (valL (lead s.data.toList)) 268436 = fv) (h4 : (lead s.data.toList).length = fc) (h5 : ∀ c, s.data.toList[k]? = some c → isDig c = false) : fv = v ∧ fc = k := by
  have e := lead_take s.data.toList k (by simpa using hk) h1 h5
  rw [e] at h3 h4
  rw [List.length_take] at h4
  have : s.data.toList.length = s.size := by simp
  omega

set_option maxHeartbeats 1000000 in
theorem leadingDigits_any (s : ByteArray) (w : World) (hs : s.size ≤ maxLen) :
    Calls Try.prog 100 #[.string s] w fun e w' => e = .returned (.tuple #[.int .i64 ((min (valL (lead s.data.toList)) 268436 : Nat) : Int), .int .i64 ((lead s.data.toList).length : Int)]) ∧ w = w' := by
  unfold maxLen at hs
  obtain ⟨fv, hfv⟩ : ∃ v : Nat, min (valL (lead s.data.toList)) 268436 = v := ⟨_, rfl⟩
  obtain ⟨fc, hfc⟩ : ∃ v : Nat, (lead s.data.toList).length = v := ⟨_, rfl⟩
  rw [hfv, hfc]
  have FV := Lib.hid hfv
  have FC := Lib.hid hfc
  clear hfv hfc
  go_enter Try.func100, Try.ntmps100
  go_wp2
  go_step3
  go_wp2
  go_step3
  go_wp2
  go_loop [2, 3] (fun v c => ∃ k v' : Nat, k ≤ s.size ∧ v' ≤ 268436 ∧ c = .int .i64 k ∧ v = .int .i64 v' ∧ (s.data.toList.take k).all isDig = true ∧ v' = min (valL (s.data.toList.take k)) 268436) (fun _ c => s.size - (intOf c).toNat)
  case atStart => exact ⟨0, 0, Nat.zero_le _, by omega, rfl, rfl, rfl, rfl⟩
  case round =>
    obtain ⟨k, v, hk, hv, rfl, rfl, hall, hval⟩ := hrel
    have H1 := Lib.hid hall
    have H2 := Lib.hid hval
    clear hall hval
    by_cases hlt : k < s.size
    · have HD := Lib.hid (dig_at s k hlt)
      have HT := Lib.hid (take_one s k hlt)
      by_cases h48 : 48 ≤ (s[k].toNat : Int)
      · by_cases h57 : (s[k].toNat : Int) ≤ 57
        · go_wp2
          go_round
          case rel =>
            refine ⟨k + 1, min (10 * v + (s[k].toNat - 48)) 268436, by omega, by omega, by go_num, congrArg (Value.int .i64) (by omega), ?_, ?_⟩
            · rw [HT.out, List.all_append, H1.out]
              unfold isDig; simp; omega
            · rw [HT.out, valL_snoc, H2.out, sat_step]
          case measure => simp [intOf]; omega
        · go_wp2
          obtain ⟨rfl, rfl⟩ := lead_here s k v fv fc hk H1.out H2.out FV.out FC.out (fun c hc => by
            rw [HD.out] at hc
            obtain rfl := Option.some.inj hc
            unfold isDig; simp; omega)
          go_ret2
          exact ⟨rfl, rfl⟩
      · go_wp2
        obtain ⟨rfl, rfl⟩ := lead_here s k v fv fc hk H1.out H2.out FV.out FC.out (fun c hc => by
          rw [HD.out] at hc
          obtain rfl := Option.some.inj hc
          unfold isDig; simp; omega)
        go_ret2
        exact ⟨rfl, rfl⟩
    · obtain rfl : k = s.size := by omega
      go_wp2
      obtain ⟨rfl, rfl⟩ := lead_here s s.size v fv fc hk H1.out H2.out FV.out FC.out (fun c hc => by
        rw [List.getElem?_eq_none (by simp)] at hc
        cases hc)
      go_ret2
      exact ⟨rfl, rfl⟩
end Go.Proofs.Ytmpjdlhigmofdaa
