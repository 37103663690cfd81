/-
  What Quote, text and number of the reference of layer 6 return. Conditions: a string's length; of number, that there is a byte.
-/
import Derived.Test.YtmpjdlhigmofdaaRefLex1
namespace Go.Proofs.Ytmpjdlhigmofdaa
open Go.RowKit lex

abbrev ba (l : List UInt8) : ByteArray := ⟨l.toArray⟩
theorem ba_ext {a b : ByteArray} (h : a.data.toList = b.data.toList) : a = b := by
  cases a; cases b; simp at h; subst h; rfl
theorem ba_of {a : ByteArray} {l : List UInt8} (h : a.data.toList = l) : a = ba l := ba_ext (by simp [h])
theorem ret_sn {a b : ByteArray} {n : Int} (h : a = b) : Ending.returned (.tuple #[.string a, .int .i64 n]) = .returned (.tuple #[.string b, .int .i64 n]) := by rw [h]
theorem ba_add (a b : ByteArray) : (a ++ b).data.toList = a.data.toList ++ b.data.toList := by simp
theorem ba_one (s : ByteArray) (k : Nat) (h : k < s.size) : (s.extract k (k + 1)).data.toList = [s[k]] := by
  have : (s.extract k (k + 1)).data.toList = (s.data.toList.drop k).take 1 := by
    rw [ByteArray.data_extract, Array.toList_extract, List.extract_eq_take_drop]; congr 1; omega
  rw [this, List.take_one, List.head?_drop, dig_at' s k h]; rfl
theorem esc_take {s : ByteArray} {k : Nat} (hlt : k < s.size) : escL (s.data.toList.take (k + 1)) = escL (s.data.toList.take k) ++ (if s[k].toNat = 34 ∨ s[k].toNat = 92 then [92, s[k]] else [s[k]]) := by
  rw [List.take_add_one, dig_at' s k hlt]
  simp [escL]
theorem esc_len (l : List UInt8) : (escL l).length ≤ 2 * l.length := by
  induction l with
  | nil => simp [escL]
  | cons a l ih =>
    have e : escL (a :: l) = (if a.toNat = 34 ∨ a.toNat = 92 then [92, a] else [a]) ++ escL l := by simp [escL]
    rw [e, List.length_append, List.length_cons]
    split <;> simp <;> omega

/-- What Quote returns: the text, the error. -/
def quoE (l : List UInt8) : List UInt8 × Int := if 32 < l.length then ([], 2) else if l.all isPl then (quoL l, 0) else ([], 1)

set_option maxHeartbeats 1000000 in
theorem rquote_of (s : ByteArray) (q : List UInt8) (e0 : Int) (w : World) (hs : s.size ≤ maxLen) (h : Hid (quoE s.data.toList = (q, e0))) :
    Calls Try.prog 81 #[.string s] w fun e w' => e = .returned (.tuple #[.string (ba q), .int .i64 e0]) ∧ w = w' := by
  have hm := hs
  unfold maxLen at hs
  have h' := h.out
  unfold quoE at h'
  rw [size_list] at h'
  clear h
  by_cases h32 : 32 < s.size
  · rw [if_pos h32] at h'
    obtain ⟨rfl, rfl⟩ := Prod.mk.inj h'
    clear h'
    go_enter Try.func81, Try.ntmps81
    go_wp2
    go_ret2
    exact ⟨rfl, rfl⟩
  · rw [if_neg h32] at h'
    obtain ⟨v, hv⟩ : ∃ v : Bool, s.data.toList.all isPl = v := ⟨_, rfl⟩
    rw [hv] at h'
    have HV := Lib.hid hv
    clear hv
    cases v
    · obtain ⟨rfl, rfl⟩ := Prod.mk.inj h'
      clear h'
      go_enter Try.func81, Try.ntmps81
      go_wp2_with (go_at_call 103; refine (rplain_of _ _ _ hm HV).mono ?_; rintro e w' ⟨rfl, rfl⟩)
      go_ret2
      exact ⟨rfl, rfl⟩
    · obtain ⟨hq, rfl⟩ := Prod.mk.inj h'
      have HQ := Lib.hid hq
      clear h' hq
      go_enter Try.func81, Try.ntmps81
      go_wp2_with (go_at_call 103; refine (rplain_of _ _ _ hm HV).mono ?_; rintro e w' ⟨rfl, rfl⟩)
      go_loop [4, 5] (fun o i => ∃ (b : ByteArray) (k : Nat), k ≤ s.size ∧ o = .string b ∧ i = .int .i64 k ∧ b.size ≤ 1 + 2 * k ∧ b.data.toList = 34 :: escL (s.data.toList.take k)) (fun _ i => s.size - (intOf i).toNat)
      case atStart => exact ⟨_, 0, Nat.zero_le _, rfl, rfl, by simp; decide, rfl⟩
      case round =>
        obtain ⟨b, k, hk, rfl, rfl, hb, hw⟩ := hrel
        have HW := Lib.hid hw
        clear hw
        by_cases hlt : k < s.size
        · have HE := Lib.hid (esc_take hlt)
          have H1 := Lib.hid (ba_one s k hlt)
          have hx : (s.extract k (k + 1)).size = 1 := by rw [← size_list, H1.out]; rfl
          by_cases h34 : s[k].toNat = 34
          · have b1 : ((s[k].toNat : Int) == 34) = true := by rw [beq_iff_eq]; omega
            have HC := Lib.hid (show s[k].toNat = 34 ∨ s[k].toNat = 92 from Or.inl h34)
            clear h34
            go_wp2
            go_round
            case rel => exact ⟨_, k + 1, by omega, rfl, by go_num, by rw [ByteArray.size_append, ByteArray.size_append, hx]; show b.size + 1 + 1 ≤ _; omega, by rw [HE.out, if_pos HC.out, ba_add, ba_add, HW.out, H1.out]; simp⟩
            case measure => simp [intOf]; omega
          · have b1 : ((s[k].toNat : Int) == 34) = false := by rw [beq_eq_false_iff_ne]; omega
            by_cases h92 : s[k].toNat = 92
            · have b2 : ((s[k].toNat : Int) == 92) = true := by rw [beq_iff_eq]; omega
              have HC := Lib.hid (show s[k].toNat = 34 ∨ s[k].toNat = 92 from Or.inr h92)
              clear h34 h92
              go_wp2
              go_round
              case rel => exact ⟨_, k + 1, by omega, rfl, by go_num, by rw [ByteArray.size_append, ByteArray.size_append, hx]; show b.size + 1 + 1 ≤ _; omega, by rw [HE.out, if_pos HC.out, ba_add, ba_add, HW.out, H1.out]; simp⟩
              case measure => simp [intOf]; omega
            · have b2 : ((s[k].toNat : Int) == 92) = false := by rw [beq_eq_false_iff_ne]; omega
              have HC := Lib.hid (show ¬ (s[k].toNat = 34 ∨ s[k].toNat = 92) by omega)
              clear h34 h92
              go_wp2
              go_round
              case rel => exact ⟨_, k + 1, by omega, rfl, by go_num, by rw [ByteArray.size_append, hx]; omega, by rw [HE.out, if_neg HC.out, ba_add, HW.out, H1.out]; simp⟩
              case measure => simp [intOf]; omega
        · obtain rfl : k = s.size := by omega
          go_wp2
          go_ret2
          refine ⟨ret_sn (ba_of ?_), rfl⟩
          rw [ba_add, HW.out, List.take_of_length_le (by rw [size_list]; omega), ← HQ.out]
          rfl

theorem ret_snn {a b : ByteArray} {n m k l : Int} (h : a = b) (h1 : n = m) (h2 : k = l) : Ending.returned (.tuple #[.string a, .int .i64 n, .int .i64 k]) = .returned (.tuple #[.string b, .int .i64 m, .int .i64 l]) := by rw [h, h1, h2]
theorem drop_at {s : ByteArray} {k : Nat} (h : k < s.size) : s.data.toList.drop k = s[k] :: s.data.toList.drop (k + 1) := by
  rw [List.drop_eq_getElem_cons (by rw [size_list]; exact h)]; rfl
theorem drop_end {s : ByteArray} {k : Nat} (h : s.size ≤ k) : s.data.toList.drop k = [] := List.drop_eq_nil_of_le (by rw [size_list]; exact h)
theorem out_err {R : List UInt8 × Nat × Int} {t : List UInt8} {n : Nat} {e : Int} (h : R = (t, n, e)) : R.1 = t ∧ R.2.1 = n ∧ R.2.2 = e := by subst h; exact ⟨rfl, rfl, rfl⟩

set_option maxHeartbeats 4000000 in
theorem rtext_of (s : ByteArray) (t : List UInt8) (n : Nat) (e0 : Int) (w : World) (hs : s.size ≤ maxLen) (h1 : 1 ≤ s.size) (h : Hid (strL (s.data.toList.drop 1) [] 1 = (t, n, e0))) :
    Calls Try.prog 61 #[.string s] w fun e w' => e = .returned (.tuple #[.string (ba t), .int .i64 (n : Int), .int .i64 e0]) ∧ w = w' := by
  unfold maxLen at hs
  go_enter Try.func61, Try.ntmps61
  go_wp2
  go_loop [5, 6] (fun o i => ∃ (b : ByteArray) (k : Nat), k ≤ s.size ∧ o = .string b ∧ i = .int .i64 k ∧ b.size ≤ 32 ∧ strL (s.data.toList.drop k) b.data.toList k = (t, n, e0)) (fun _ i => s.size - (intOf i).toNat)
  case atStart => exact ⟨_, 1, h1, rfl, rfl, by decide, h.out⟩
  case round =>
    obtain ⟨b, k, hk, rfl, rfl, hb, hw⟩ := hrel
    have HW := Lib.hid hw
    clear hw
    by_cases hlt : k < s.size
    · have HD := Lib.hid (drop_at hlt)
      by_cases c10 : s[k].toNat = 10
      · have b0 : ((s[k].toNat : Int) != 10) = false := by simp; omega
        obtain ⟨rfl, rfl, rfl⟩ : t = [] ∧ n = 0 ∧ e0 = 3 := by have := HW.out; rw [HD.out, strL_lf _ _ _ c10] at this; obtain ⟨a, b, c⟩ := out_err this.symm; exact ⟨a, b, c⟩
        clear c10
        go_wp2
        go_ret3
        exact ⟨rfl, rfl⟩
      · have b0 : ((s[k].toNat : Int) != 10) = true := by simp; omega
        by_cases c34 : s[k].toNat = 34
        · have b1 : ((s[k].toNat : Int) == 34) = true := by rw [beq_iff_eq]; omega
          have HR : Hid (t = b.data.toList ∧ n = k + 1 ∧ e0 = 0) := Lib.hid (by have := HW.out; rw [HD.out, strL_end _ _ _ c34] at this; exact out_err this.symm)
          clear c10 c34
          go_wp2
          go_ret3
          refine ⟨ret_snn (ba_of HR.out.1.symm) (by rw [HR.out.2.1]; rfl) HR.out.2.2.symm, rfl⟩
        · have b1 : ((s[k].toNat : Int) == 34) = false := by rw [beq_eq_false_iff_ne]; omega
          by_cases c92 : s[k].toNat = 92
          · have b2 : ((s[k].toNat : Int) == 92) = true := by rw [beq_iff_eq]; omega
            by_cases hlt2 : k + 1 < s.size
            · have b3 : ((k : Int) + 1 == (s.size : Int)) = false := by rw [beq_eq_false_iff_ne]; omega
              have HD2 := Lib.hid (drop_at hlt2)
              have hi : (k : Int) + 1 < (s.size : Int) := by omega
              by_cases d10 : s[k + 1].toNat = 10
              · have b4 : ((s[k + 1].toNat : Int) == 10) = true := by rw [beq_iff_eq]; omega
                obtain ⟨rfl, rfl, rfl⟩ : t = [] ∧ n = 0 ∧ e0 = 3 := by have := HW.out; rw [HD.out, HD2.out, strL_esc1 _ _ _ c92 d10] at this; exact out_err this.symm
                clear c10 c34 c92 d10
                go_wp2
                go_ret3
                exact ⟨rfl, rfl⟩
              · have b4 : ((s[k + 1].toNat : Int) == 10) = false := by rw [beq_eq_false_iff_ne]; omega
                by_cases dd : s[k + 1].toNat = 34 ∨ s[k + 1].toNat = 92
                · have H1 := Lib.hid (ba_one s (k + 1) hlt2)
                  have hx : (s.extract (k + 1) (k + 1 + 1)).size = 1 := by rw [← size_list, H1.out]; rfl
                  have hlo : ((s.extract (k + 1) (k + 1 + 1)).size : Int) = 1 := by omega
                  have C92 := Lib.hid c92
                  have DD := Lib.hid dd
                  by_cases hl : b.size = 32
                  · obtain ⟨rfl, rfl, rfl⟩ : t = [] ∧ n = 0 ∧ e0 = 2 := by have := HW.out; rw [HD.out, HD2.out, strL_esc3 _ _ _ c92 dd (by rw [size_list]; omega)] at this; exact out_err this.symm
                    rcases dd with d34 | d92
                    · have b5 : ((s[k + 1].toNat : Int) != 34) = false := by simp; omega
                      clear c10 c34 c92 d10 d34 hlo
                      go_wp2
                      go_ret3
                      exact ⟨rfl, rfl⟩
                    · have b5 : ((s[k + 1].toNat : Int) != 34) = true := by simp; omega
                      have b6 : ((s[k + 1].toNat : Int) != 92) = false := by simp; omega
                      clear c10 c34 c92 d10 d92 hlo
                      go_wp2
                      go_ret3
                      exact ⟨rfl, rfl⟩
                  · have hl2 : b.size < 32 := by omega
                    clear hl
                    rcases dd with d34 | d92
                    · have b5 : ((s[k + 1].toNat : Int) != 34) = false := by simp; omega
                      clear c10 c34 c92 d10 d34 hlo
                      go_wp2
                      go_round
                      case rel => exact ⟨_, k + 2, by omega, rfl, by go_num, by rw [ByteArray.size_append, hx]; omega, by rw [ba_add, H1.out]; have := HW.out; rw [HD.out, HD2.out, strL_esc4 _ _ _ C92.out DD.out (by rw [size_list]; omega)] at this; exact this⟩
                      case measure => simp [intOf]; omega
                    · have b5 : ((s[k + 1].toNat : Int) != 34) = true := by simp; omega
                      have b6 : ((s[k + 1].toNat : Int) != 92) = false := by simp; omega
                      clear c10 c34 c92 d10 d92 hlo
                      go_wp2
                      go_round
                      case rel => exact ⟨_, k + 2, by omega, rfl, by go_num, by rw [ByteArray.size_append, hx]; omega, by rw [ba_add, H1.out]; have := HW.out; rw [HD.out, HD2.out, strL_esc4 _ _ _ C92.out DD.out (by rw [size_list]; omega)] at this; exact this⟩
                      case measure => simp [intOf]; omega
                · have b5 : ((s[k + 1].toNat : Int) != 34) = true := by simp; omega
                  have b6 : ((s[k + 1].toNat : Int) != 92) = true := by simp; omega
                  obtain ⟨rfl, rfl, rfl⟩ : t = [] ∧ n = 0 ∧ e0 = 4 := by have := HW.out; rw [HD.out, HD2.out, strL_esc2 _ _ _ c92 d10 (by omega)] at this; exact out_err this.symm
                  clear c10 c34 c92 d10 dd
                  go_wp2
                  go_ret3
                  exact ⟨rfl, rfl⟩
            · have b3 : ((k : Int) + 1 == (s.size : Int)) = true := by rw [beq_iff_eq]; omega
              obtain ⟨rfl, rfl, rfl⟩ : t = [] ∧ n = 0 ∧ e0 = 3 := by have := HW.out; rw [HD.out, drop_end (by omega), strL_esc0 _ _ c92] at this; exact out_err this.symm
              clear c10 c34 c92
              go_wp2
              go_ret3
              exact ⟨rfl, rfl⟩
          · have b2 : ((s[k].toNat : Int) == 92) = false := by rw [beq_eq_false_iff_ne]; omega
            obtain ⟨pl, hp⟩ : ∃ v, isPl s[k] = v := ⟨_, rfl⟩
            have HP := Lib.hid hp
            cases pl
            · have hp' : ¬ (32 ≤ s[k].toNat ∧ s[k].toNat ≤ 126) := by simpa [isPl] using hp
              obtain ⟨rfl, rfl, rfl⟩ : t = [] ∧ n = 0 ∧ e0 = 4 := by have := HW.out; rw [HD.out, strL_bad _ _ _ c10 hp] at this; exact out_err this.symm
              clear c10 c34 c92 hp
              by_cases lo : (s[k].toNat : Int) < 32
              · clear hp'
                go_wp2
                go_ret3
                exact ⟨rfl, rfl⟩
              · have hi : 126 < (s[k].toNat : Int) := by omega
                clear hp'
                go_wp2
                go_ret3
                exact ⟨rfl, rfl⟩
            · have hp' : 32 ≤ s[k].toNat ∧ s[k].toNat ≤ 126 := by simpa [isPl] using hp
              have p1 : 32 ≤ (s[k].toNat : Int) := by omega
              have p2 : (s[k].toNat : Int) ≤ 126 := by omega
              have H1 := Lib.hid (ba_one s k hlt)
              have hx : (s.extract k (k + 1)).size = 1 := by rw [← size_list, H1.out]; rfl
              have C34 := Lib.hid c34
              have C92 := Lib.hid c92
              clear hp' c10
              by_cases hl : b.size = 32
              · obtain ⟨rfl, rfl, rfl⟩ : t = [] ∧ n = 0 ∧ e0 = 2 := by have := HW.out; rw [HD.out, strL_lim _ _ _ c34 c92 hp (by rw [size_list]; omega)] at this; exact out_err this.symm
                clear c34 c92 hp
                go_wp2
                go_ret3
                exact ⟨rfl, rfl⟩
              · have hl2 : b.size < 32 := by omega
                clear c34 c92 hp hl
                go_wp2
                go_round
                case rel => exact ⟨_, k + 1, by omega, rfl, by go_num, by rw [ByteArray.size_append, hx]; omega, by rw [ba_add, H1.out]; have := HW.out; rw [HD.out, strL_ok _ _ _ C34.out C92.out HP.out (by rw [size_list]; omega)] at this; exact this⟩
                case measure => simp [intOf]; omega
    · obtain rfl : k = s.size := by omega
      obtain ⟨rfl, rfl, rfl⟩ : t = [] ∧ n = 0 ∧ e0 = 3 := by have := HW.out; rw [drop_end (Nat.le_refl _), strL_nil] at this; exact out_err this.symm
      go_wp2
      go_ret3
      exact ⟨rfl, rfl⟩

theorem list_cons {s : ByteArray} (h : 0 < s.size) : s.data.toList = s[0] :: s.data.toList.drop 1 := by
  have := drop_at h; rw [List.drop_zero] at this; exact this
/-- The end of the reference's loop over a number: what holds where it stops. -/
def NumEnd (l : List UInt8) (m n : Nat) : Prop := ∀ k, m ≤ k → k ≤ l.length → NumTo l m k → (∀ d, l[k]? = some d → isNb d = false) → n = k
set_option maxHeartbeats 4000000 in
theorem rnumber_of (s : ByteArray) (n : Nat) (w : World) (hs : s.size ≤ maxLen) (h1 : 1 ≤ s.size) (h : Hid (numLen s.data.toList = n)) :
    Calls Try.prog 59 #[.string s] w fun e w' => e = .returned (.int .i64 (n : Int)) ∧ w = w' := by
  unfold maxLen at hs
  have hL := list_cons (s := s) (by omega)
  obtain ⟨g, hg⟩ : ∃ v, isDgt s[0] = v := ⟨_, rfl⟩
  have HG := Lib.hid hg
  cases g
  · by_cases h45 : s.size > 1 ∧ s[0].toNat = 45
    · obtain ⟨h2, h45⟩ := h45
      obtain ⟨g1, hg1⟩ : ∃ v, isDgt s[1] = v := ⟨_, rfl⟩
      have HG1 := Lib.hid hg1
      have hh : (s.data.toList.drop 1).head? = some s[1] := by rw [List.head?_drop]; exact dig_at' s 1 h2
      have b0 : ((s[0].toNat : Int) == 45) = true := by rw [beq_iff_eq]; omega
      cases g1
      · obtain rfl : n = 0 := by rw [← h.out, hL]; exact numLen_no hg (by rw [hh]; simp [hg1])
        clear hL hg hg1 hh h45
        go_enter Try.func59, Try.ntmps59
        go_wp2_with (first | (go_at_call 91; (with_reducible refine (rdigit_of _ _ _ HG1).mono ?_); rintro e w' ⟨rfl, rfl⟩) | (go_at_call 91; (with_reducible refine (rdigit_of _ _ _ HG).mono ?_); rintro e w' ⟨rfl, rfl⟩))
        go_ret
        exact ⟨rfl, rfl⟩
      · have END : Hid (NumEnd s.data.toList 1 n) := Lib.hid (fun k h1 h2 h3 h4 => by
          rw [← h.out]
          rw [hL] at h2 h3 h4 ⊢
          exact NumTo.stop1 hg h45 (by rw [hh]; simp [hg1]) h1 h3 h2 h4)
        clear hL hg hg1 hh h45
        go_enter Try.func59, Try.ntmps59
        go_wp2_with (go_at_call 91; (with_reducible refine (rdigit_of _ _ _ HG1).mono ?_); rintro e w' ⟨rfl, rfl⟩)
        go_loop [3] (fun v => ∃ k : Nat, 1 ≤ k ∧ k ≤ s.size ∧ v = .int .i64 k ∧ NumTo s.data.toList 1 k) (fun v => s.size - (intOf v).toNat)
        case atStart => exact ⟨1, Nat.le_refl _, h1, rfl, NumTo.start _ _⟩
        case round =>
          obtain ⟨k, hmk, hk, rfl, hw⟩ := hrel
          have HW := Lib.hid hw
          clear hw
          by_cases hlt : k < s.size
          · have HD := Lib.hid (dig_at' s k hlt)
            obtain ⟨a, ha⟩ : ∃ v, isLet s[k] = v := ⟨_, rfl⟩
            obtain ⟨b, hb⟩ : ∃ v, isDgt s[k] = v := ⟨_, rfl⟩
            have HA := Lib.hid ha
            have HB := Lib.hid hb
            have HN : Hid (isNb s[k] = (a || b || decide (s[k].toNat = 46))) := Lib.hid (by unfold isNb isWd; rw [ha, hb])
            clear ha hb
            cases a
            · cases b
              · by_cases c46 : s[k].toNat = 46
                · have b1 : ((s[k].toNat : Int) == 46) = true := by rw [beq_iff_eq]; omega
                  have HK := Lib.hid (show isNb s[k] = true by rw [HN.out, c46]; rfl)
                  clear c46
                  go_wp2_with (first | (go_at_call 90; (with_reducible refine (rletter_of _ _ _ HA).mono ?_); rintro e w' ⟨rfl, rfl⟩) | (go_at_call 91; (with_reducible refine (rdigit_of _ _ _ HB).mono ?_); rintro e w' ⟨rfl, rfl⟩))
                  go_round
                  case rel => exact ⟨k + 1, by omega, by omega, by go_num, HW.out.next HD.out HK.out⟩
                  case measure => simp [intOf]; omega
                · have b1 : ((s[k].toNat : Int) == 46) = false := by rw [beq_eq_false_iff_ne]; omega
                  obtain rfl : n = k := END.out k hmk (by rw [size_list]; exact hk) HW.out (fun d hd => by rw [HD.out] at hd; obtain rfl := Option.some.inj hd; rw [HN.out]; simp [c46])
                  clear c46
                  go_wp2_with (first | (go_at_call 90; (with_reducible refine (rletter_of _ _ _ HA).mono ?_); rintro e w' ⟨rfl, rfl⟩) | (go_at_call 91; (with_reducible refine (rdigit_of _ _ _ HB).mono ?_); rintro e w' ⟨rfl, rfl⟩))
                  go_ret
                  exact ⟨rfl, rfl⟩
              · have HK := Lib.hid (show isNb s[k] = true by rw [HN.out]; rfl)
                go_wp2_with (first | (go_at_call 90; (with_reducible refine (rletter_of _ _ _ HA).mono ?_); rintro e w' ⟨rfl, rfl⟩) | (go_at_call 91; (with_reducible refine (rdigit_of _ _ _ HB).mono ?_); rintro e w' ⟨rfl, rfl⟩))
                go_round
                case rel => exact ⟨k + 1, by omega, by omega, by go_num, HW.out.next HD.out HK.out⟩
                case measure => simp [intOf]; omega
            · have HK := Lib.hid (show isNb s[k] = true by rw [HN.out]; rfl)
              go_wp2_with (first | (go_at_call 90; (with_reducible refine (rletter_of _ _ _ HA).mono ?_); rintro e w' ⟨rfl, rfl⟩) | (go_at_call 91; (with_reducible refine (rdigit_of _ _ _ HB).mono ?_); rintro e w' ⟨rfl, rfl⟩))
              go_round
              case rel => exact ⟨k + 1, by omega, by omega, by go_num, HW.out.next HD.out HK.out⟩
              case measure => simp [intOf]; omega
          · obtain rfl : k = s.size := by omega
            obtain rfl : n = s.size := END.out s.size hmk (by rw [size_list]; exact Nat.le_refl _) HW.out (fun d hd => by rw [List.getElem?_eq_none (by rw [size_list]; exact Nat.le_refl _)] at hd; cases hd)
            go_wp2
            go_ret
            exact ⟨rfl, rfl⟩
    · have hd : Hid (n = 0) := Lib.hid (by
        rw [← h.out, hL]
        refine numLen_no hg (fun e => h45 ⟨?_, e.1⟩)
        rcases Nat.lt_or_ge 1 s.size with h2 | h2
        · exact h2
        · rw [drop_end h2] at e; simp at e)
      obtain rfl := hd.out
      clear hL hg hd
      by_cases h2 : s.size > 1
      · have b0 : ((s[0].toNat : Int) == 45) = false := by rw [beq_eq_false_iff_ne]; omega
        clear h45
        go_enter Try.func59, Try.ntmps59
        go_wp2_with (go_at_call 91; (with_reducible refine (rdigit_of _ _ _ HG).mono ?_); rintro e w' ⟨rfl, rfl⟩)
        go_ret
        exact ⟨rfl, rfl⟩
      · clear h45
        go_enter Try.func59, Try.ntmps59
        go_wp2_with (go_at_call 91; (with_reducible refine (rdigit_of _ _ _ HG).mono ?_); rintro e w' ⟨rfl, rfl⟩)
        go_ret
        exact ⟨rfl, rfl⟩
  · have hne : ¬ s[0].toNat = 45 := by intro e; rw [show s[0] = 45 from UInt8.toNat_inj.1 e] at hg; exact absurd hg (by decide)
    have b0 : ((s[0].toNat : Int) == 45) = false := by rw [beq_eq_false_iff_ne]; omega
    have END : Hid (NumEnd s.data.toList 0 n) := Lib.hid (fun k _ h2 h3 h4 => by
      rw [← h.out]
      rw [hL] at h2 h3 h4 ⊢
      exact NumTo.stop0 hg h3 h2 h4)
    clear hL hg hne
    by_cases h2 : s.size > 1
    · go_enter Try.func59, Try.ntmps59
      go_wp2_with (go_at_call 91; (with_reducible refine (rdigit_of _ _ _ HG).mono ?_); rintro e w' ⟨rfl, rfl⟩)
      go_loop [3] (fun v => ∃ k : Nat, 0 ≤ k ∧ k ≤ s.size ∧ v = .int .i64 k ∧ NumTo s.data.toList 0 k) (fun v => s.size - (intOf v).toNat)
      case atStart => exact ⟨0, Nat.le_refl _, Nat.zero_le _, rfl, NumTo.start _ _⟩
      case round =>
        obtain ⟨k, hmk, hk, rfl, hw⟩ := hrel
        have HW := Lib.hid hw
        clear hw
        by_cases hlt : k < s.size
        · have HD := Lib.hid (dig_at' s k hlt)
          obtain ⟨a, ha⟩ : ∃ v, isLet s[k] = v := ⟨_, rfl⟩
          obtain ⟨b, hb⟩ : ∃ v, isDgt s[k] = v := ⟨_, rfl⟩
          have HA := Lib.hid ha
          have HB := Lib.hid hb
          have HN : Hid (isNb s[k] = (a || b || decide (s[k].toNat = 46))) := Lib.hid (by unfold isNb isWd; rw [ha, hb])
          clear ha hb
          cases a
          · cases b
            · by_cases c46 : s[k].toNat = 46
              · have b1 : ((s[k].toNat : Int) == 46) = true := by rw [beq_iff_eq]; omega
                have HK := Lib.hid (show isNb s[k] = true by rw [HN.out, c46]; rfl)
                clear c46
                go_wp2_with (first | (go_at_call 90; (with_reducible refine (rletter_of _ _ _ HA).mono ?_); rintro e w' ⟨rfl, rfl⟩) | (go_at_call 91; (with_reducible refine (rdigit_of _ _ _ HB).mono ?_); rintro e w' ⟨rfl, rfl⟩))
                go_round
                case rel => exact ⟨k + 1, by omega, by omega, by go_num, HW.out.next HD.out HK.out⟩
                case measure => simp [intOf]; omega
              · have b1 : ((s[k].toNat : Int) == 46) = false := by rw [beq_eq_false_iff_ne]; omega
                obtain rfl : n = k := END.out k hmk (by rw [size_list]; exact hk) HW.out (fun d hd => by rw [HD.out] at hd; obtain rfl := Option.some.inj hd; rw [HN.out]; simp [c46])
                clear c46
                go_wp2_with (first | (go_at_call 90; (with_reducible refine (rletter_of _ _ _ HA).mono ?_); rintro e w' ⟨rfl, rfl⟩) | (go_at_call 91; (with_reducible refine (rdigit_of _ _ _ HB).mono ?_); rintro e w' ⟨rfl, rfl⟩))
                go_ret
                exact ⟨rfl, rfl⟩
            · have HK := Lib.hid (show isNb s[k] = true by rw [HN.out]; rfl)
              go_wp2_with (first | (go_at_call 90; (with_reducible refine (rletter_of _ _ _ HA).mono ?_); rintro e w' ⟨rfl, rfl⟩) | (go_at_call 91; (with_reducible refine (rdigit_of _ _ _ HB).mono ?_); rintro e w' ⟨rfl, rfl⟩))
              go_round
              case rel => exact ⟨k + 1, by omega, by omega, by go_num, HW.out.next HD.out HK.out⟩
              case measure => simp [intOf]; omega
          · have HK := Lib.hid (show isNb s[k] = true by rw [HN.out]; rfl)
            go_wp2_with (first | (go_at_call 90; (with_reducible refine (rletter_of _ _ _ HA).mono ?_); rintro e w' ⟨rfl, rfl⟩) | (go_at_call 91; (with_reducible refine (rdigit_of _ _ _ HB).mono ?_); rintro e w' ⟨rfl, rfl⟩))
            go_round
            case rel => exact ⟨k + 1, by omega, by omega, by go_num, HW.out.next HD.out HK.out⟩
            case measure => simp [intOf]; omega
        · obtain rfl : k = s.size := by omega
          obtain rfl : n = s.size := END.out s.size hmk (by rw [size_list]; exact Nat.le_refl _) HW.out (fun d hd => by rw [List.getElem?_eq_none (by rw [size_list]; exact Nat.le_refl _)] at hd; cases hd)
          go_wp2
          go_ret
          exact ⟨rfl, rfl⟩
    · go_enter Try.func59, Try.ntmps59
      go_wp2_with (go_at_call 91; (with_reducible refine (rdigit_of _ _ _ HG).mono ?_); rintro e w' ⟨rfl, rfl⟩)
      go_loop [3] (fun v => ∃ k : Nat, 0 ≤ k ∧ k ≤ s.size ∧ v = .int .i64 k ∧ NumTo s.data.toList 0 k) (fun v => s.size - (intOf v).toNat)
      case atStart => exact ⟨0, Nat.le_refl _, Nat.zero_le _, rfl, NumTo.start _ _⟩
      case round =>
        obtain ⟨k, hmk, hk, rfl, hw⟩ := hrel
        have HW := Lib.hid hw
        clear hw
        by_cases hlt : k < s.size
        · have HD := Lib.hid (dig_at' s k hlt)
          obtain ⟨a, ha⟩ : ∃ v, isLet s[k] = v := ⟨_, rfl⟩
          obtain ⟨b, hb⟩ : ∃ v, isDgt s[k] = v := ⟨_, rfl⟩
          have HA := Lib.hid ha
          have HB := Lib.hid hb
          have HN : Hid (isNb s[k] = (a || b || decide (s[k].toNat = 46))) := Lib.hid (by unfold isNb isWd; rw [ha, hb])
          clear ha hb
          cases a
          · cases b
            · by_cases c46 : s[k].toNat = 46
              · have b1 : ((s[k].toNat : Int) == 46) = true := by rw [beq_iff_eq]; omega
                have HK := Lib.hid (show isNb s[k] = true by rw [HN.out, c46]; rfl)
                clear c46
                go_wp2_with (first | (go_at_call 90; (with_reducible refine (rletter_of _ _ _ HA).mono ?_); rintro e w' ⟨rfl, rfl⟩) | (go_at_call 91; (with_reducible refine (rdigit_of _ _ _ HB).mono ?_); rintro e w' ⟨rfl, rfl⟩))
                go_round
                case rel => exact ⟨k + 1, by omega, by omega, by go_num, HW.out.next HD.out HK.out⟩
                case measure => simp [intOf]; omega
              · have b1 : ((s[k].toNat : Int) == 46) = false := by rw [beq_eq_false_iff_ne]; omega
                obtain rfl : n = k := END.out k hmk (by rw [size_list]; exact hk) HW.out (fun d hd => by rw [HD.out] at hd; obtain rfl := Option.some.inj hd; rw [HN.out]; simp [c46])
                clear c46
                go_wp2_with (first | (go_at_call 90; (with_reducible refine (rletter_of _ _ _ HA).mono ?_); rintro e w' ⟨rfl, rfl⟩) | (go_at_call 91; (with_reducible refine (rdigit_of _ _ _ HB).mono ?_); rintro e w' ⟨rfl, rfl⟩))
                go_ret
                exact ⟨rfl, rfl⟩
            · have HK := Lib.hid (show isNb s[k] = true by rw [HN.out]; rfl)
              go_wp2_with (first | (go_at_call 90; (with_reducible refine (rletter_of _ _ _ HA).mono ?_); rintro e w' ⟨rfl, rfl⟩) | (go_at_call 91; (with_reducible refine (rdigit_of _ _ _ HB).mono ?_); rintro e w' ⟨rfl, rfl⟩))
              go_round
              case rel => exact ⟨k + 1, by omega, by omega, by go_num, HW.out.next HD.out HK.out⟩
              case measure => simp [intOf]; omega
          · have HK := Lib.hid (show isNb s[k] = true by rw [HN.out]; rfl)
            go_wp2_with (first | (go_at_call 90; (with_reducible refine (rletter_of _ _ _ HA).mono ?_); rintro e w' ⟨rfl, rfl⟩) | (go_at_call 91; (with_reducible refine (rdigit_of _ _ _ HB).mono ?_); rintro e w' ⟨rfl, rfl⟩))
            go_round
            case rel => exact ⟨k + 1, by omega, by omega, by go_num, HW.out.next HD.out HK.out⟩
            case measure => simp [intOf]; omega
        · obtain rfl : k = s.size := by omega
          obtain rfl : n = s.size := END.out s.size hmk (by rw [size_list]; exact Nat.le_refl _) HW.out (fun d hd => by rw [List.getElem?_eq_none (by rw [size_list]; exact Nat.le_refl _)] at hd; cases hd)
          go_wp2
          go_ret
          exact ⟨rfl, rfl⟩
end Go.Proofs.Ytmpjdlhigmofdaa
