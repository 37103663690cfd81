/-
  What leadingMark of the lexer returns. No condition.
-/
import Derived.Test.YtcohjleolidngaaDoorLexB
namespace Go.Proofs.YtcohjleolidngaaDoor
open Go.RowKit lex

/-- The mark at the beginning, or nothing. -/
def markL (l : List UInt8) : List UInt8 := if 1 < l.length ∧ isMk (l.take 2) = true then l.take 2 else if isMk (l.take 1) then l.take 1 else []
def mkAt (k : Nat) : List UInt8 := mks.getD k []
theorem mark_pre (l : List UInt8) (k : Nat) (hk : k < 10) (h : Lib.hasPrefix l (mkAt k) = true) : markL l = mkAt k := by
  unfold Lib.hasPrefix at h
  obtain ⟨t, rfl⟩ := List.isPrefixOf_iff_prefix.1 h
  have two : ∀ c d : UInt8, c ≠ 45 → isMk [c, d] = false := by
    intro c d hc
    simp [isMk, mks, hc]
  have one : ∀ c : UInt8, c ≠ 45 → isMk [c] = true → markL (c :: t) = [c] := by
    intro c hc h1
    unfold markL
    rw [if_neg, show (c :: t).take 1 = [c] from rfl, if_pos h1]
    rintro ⟨_, h2⟩
    cases t with
    | nil => rename_i hl; simp at hl
    | cons d t => rw [show (c :: d :: t).take 2 = [c, d] from rfl, two c d hc] at h2; cases h2
  match k, hk with
  | 0, _ => exact one 123 (by decide) (by decide)
  | 1, _ => exact one 125 (by decide) (by decide)
  | 2, _ => exact one 91 (by decide) (by decide)
  | 3, _ => exact one 93 (by decide) (by decide)
  | 4, _ => exact one 59 (by decide) (by decide)
  | 5, _ => exact one 44 (by decide) (by decide)
  | 6, _ => exact one 61 (by decide) (by decide)
  | 7, _ => exact one 58 (by decide) (by decide)
  | 8, _ => show markL (45 :: 62 :: t) = _; unfold markL; rw [if_pos ⟨by simp, by simp [isMk, mks]⟩]; rfl
  | 9, _ => show markL (45 :: 45 :: t) = _; unfold markL; rw [if_pos ⟨by simp, by simp [isMk, mks]⟩]; rfl
  | (k + 10), hk => omega
theorem mark_none (l : List UInt8) (h : ∀ k, k < 10 → Lib.hasPrefix l (mkAt k) = false) : markL l = [] := by
  have key : ∀ n, isMk (l.take n) = true → False := by
    intro n hn
    obtain ⟨k, hk, e⟩ : ∃ k, k < 10 ∧ mkAt k = l.take n := by
      unfold isMk at hn
      rw [List.contains_iff_mem] at hn
      obtain ⟨k, hk, e⟩ := List.mem_iff_getElem.1 hn
      exact ⟨k, hk, by unfold mkAt; rw [List.getD_eq_getElem?_getD, List.getElem?_eq_getElem hk, e]; rfl⟩
    have := h k hk
    rw [e] at this
    unfold Lib.hasPrefix at this
    rw [List.isPrefixOf_iff_prefix.2 (List.take_prefix n l)] at this
    cases this
  unfold markL
  rw [if_neg (fun e => key 2 e.2), if_neg (key 1)]
theorem pre_next {l : List UInt8} {k : Nat} (h : ∀ j, j < k → Lib.hasPrefix l (mkAt j) = false) (hk : Lib.hasPrefix l (mkAt k) = false) : ∀ j, j < k + 1 → Lib.hasPrefix l (mkAt j) = false := by
  intro j hj
  rcases Nat.lt_or_ge j k with h1 | h1
  · exact h j h1
  · obtain rfl : j = k := by omega
    exact hk
theorem hasPrefix_of (s : ByteArray) (l : List UInt8) (v : Bool) (w : World) (h : Hid (Lib.hasPrefix s.data.toList l = v)) :
    Calls Tryd.prog 40 #[.string s, .string ⟨l.toArray⟩] w fun e w' => e = .returned (.bool v) ∧ w = w' := by
  have c := Tryd.strings_HasPrefix s ⟨l.toArray⟩ w
  rw [show (⟨l.toArray⟩ : ByteArray).data.toList = l from ba_list l, h.out] at c
  exact c.mono fun _ _ h => ⟨h.1, h.2.symm⟩
/-- The array of marks by value. -/
abbrev mkArr : Value := .agg #[.string ⟨#[123]⟩, .string ⟨#[125]⟩, .string ⟨#[91]⟩, .string ⟨#[93]⟩, .string ⟨#[59]⟩, .string ⟨#[44]⟩, .string ⟨#[61]⟩, .string ⟨#[58]⟩, .string ⟨#[45, 62]⟩, .string ⟨#[45, 45]⟩]
theorem mk_index (k : Nat) (hk : k < 10) (W : World) : (Instr.index 51 mkArr (.int .i64 (k : Int))).run Tryd.prog W = .ok (.string ⟨(mkAt k).toArray⟩) W := by
  match k, hk with
  | 0, _ => rfl
  | 1, _ => rfl
  | 2, _ => rfl
  | 3, _ => rfl
  | 4, _ => rfl
  | 5, _ => rfl
  | 6, _ => rfl
  | 7, _ => rfl
  | 8, _ => rfl
  | 9, _ => rfl
  | (k + 10), hk => omega
set_option maxHeartbeats 4000000 in
theorem leadingMark_of (s : ByteArray) (m : List UInt8) (w : World) (hm : Hid (markL s.data.toList = m)) :
    Calls Tryd.prog 20 #[.string s] w fun e w' => e = .returned (.string (ba m)) ∧ w = w' := by
  go_enter Tryd.func20, Tryd.ntmps20
  go_wp2_with fail
  go_loop [6] (fun i => ∃ k : Nat, k ≤ 10 ∧ i = .int .i64 k ∧ ∀ j, j < k → Lib.hasPrefix s.data.toList (mkAt j) = false) (fun i => 10 - (intOf i).toNat)
  case atStart => exact ⟨0, by omega, rfl, fun j hj => absurd hj (by omega)⟩
  case round =>
    obtain ⟨k, hk, rfl, hp⟩ := hrel
    have HP := Lib.hid hp
    clear hp
    by_cases hlt : k < 10
    · obtain ⟨v, hv⟩ : ∃ v, Lib.hasPrefix s.data.toList (mkAt k) = v := ⟨_, rfl⟩
      have HV := Lib.hid hv
      have hix := mk_index k hlt
      have HC : Hid (∀ w, Calls Tryd.prog 40 #[.string s, .string ⟨(mkAt k).toArray⟩] w fun e w' => e = .returned (.bool v) ∧ w = w') := Lib.hid (fun w => hasPrefix_of s (mkAt k) v w HV)
      have HT : Hid (v = true → m = mkAt k) := Lib.hid (fun e => by rw [← hm.out]; exact mark_pre _ k hlt (by rw [hv]; exact e))
      have HN : Hid (v = false → ∀ j, j < k + 1 → Lib.hasPrefix s.data.toList (mkAt j) = false) := Lib.hid (fun e => pre_next HP.out (by rw [hv]; exact e))
      clear hv HV hm HP
      generalize mkAt k = x at hix HC HT
      cases v
      · have HQ := Lib.hid (HN.out rfl)
        clear HN HT
        go_wp2_with (go_at_call 40; refine (HC.out _).mono ?_; rintro e w' ⟨rfl, rfl⟩)
        go_round
        case rel => exact ⟨k + 1, by omega, by go_num, HQ.out⟩
        case measure => simp [intOf]; omega
      · have HQ := Lib.hid (HT.out rfl)
        clear HN HT
        go_wp2_with (go_at_call 40; refine (HC.out _).mono ?_; rintro e w' ⟨rfl, rfl⟩)
        go_ret
        exact ⟨by rw [HQ.out]; rfl, rfl⟩
    · obtain rfl : k = 10 := by omega
      have HQ : Hid (m = []) := Lib.hid (by rw [← hm.out]; exact mark_none _ HP.out)
      clear HP
      go_wp2
      go_ret
      exact ⟨by rw [HQ.out]; rfl, rfl⟩
end Go.Proofs.YtcohjleolidngaaDoor
