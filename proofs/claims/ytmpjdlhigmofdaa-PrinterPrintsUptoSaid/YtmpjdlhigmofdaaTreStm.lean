/-
  What hasNames, attrsError and statementError of the landed tree return. Condition: a statement in memory.
-/
import Derived.Test.YtmpjdlhigmofdaaTreForm
import Derived.Test.YtmpjdlhigmofdaaTreShelf
import Derived.Test.YtmpjdlhigmofdaaTreSta
namespace Go.Proofs.Ytmpjdlhigmofdaa.tre
open Go.RowKit Go.Shelf lex

/-! ### Printable text -/
def npN (x : Nat) : Bool := !plN x
theorem pl_by : ByBytes plN isPl := ⟨fun b _ => rfl, false, fun r h => by simp [plN]; omega, fun b h => by simp [isPl]; omega⟩
theorem idx_not (s : ByteArray) : ∀ (f pos : Nat), Lib.idxFuncFrom npN true s f pos = Lib.idxFuncFrom plN false s f pos := by
  intro f
  induction f with
  | zero => intro pos; rfl
  | succ f ih =>
    intro pos
    unfold Lib.idxFuncFrom
    rw [ih]
    cases h : plN (Utf8.decode s pos).1 <;> simp [npN, h]
theorem tw_all (q : UInt8 → Bool) (l : List UInt8) : (l.takeWhile q).length = l.length ↔ l.all q = true := by
  induction l with
  | nil => simp
  | cons a t ih =>
    rw [List.takeWhile_cons, List.all_cons]
    cases h : q a
    · simp
    · simp only [if_true, List.length_cons, Bool.true_and]
      exact ⟨fun e => ih.1 (by omega), fun e => by have := ih.2 e; omega⟩
theorem np_idx (s : ByteArray) : decide (0 ≤ Lib.idxFunc npN true s) = !(s.data.toList.all isPl) := by
  have h := idx_from pl_by s s.size 0 (by omega) (Nat.zero_le _)
  unfold Lib.idxFunc
  rw [idx_not, h, List.drop_zero]
  have hw := tw_all isPl s.data.toList
  rw [b_size] at hw
  by_cases ha : s.data.toList.all isPl = true
  · rw [if_pos (by have := hw.2 ha; omega), ha]; rfl
  · rw [if_neg (by intro e; exact ha (hw.1 (by omega)))]
    simp only [Bool.not_eq_true] at ha
    rw [ha, decide_eq_true (by omega)]; rfl
theorem notpl_any (x : Nat) (w : World) : Calls Try.prog 96 #[.int .i32 (x : Int)] w fun e w' => e = .returned (.bool (npN x)) ∧ w = w' := by
  go_enter Try.func96, Try.ntmps96
  go_wp2
  all_goals go_ret
  all_goals refine ⟨ret_bool ?_, rfl⟩
  all_goals (unfold npN plN; rw [Bool.eq_iff_iff]; simp; omega)
theorem notpl_of (s : ByteArray) (r : Bool) (w : World) (hr : Hid (s.data.toList.all isPl = r)) :
    Calls Try.prog 95 #[.string s, .func (.func 96) #[] #[]] w fun e w' => e = .returned (.bool (!r)) ∧ Below w.heap.size w w' := by
  have := Try.strings_ContainsFunc_runes 96 #[] (enters_of Try.func96 (by kernel_rfl) rfl) npN s w (runes_of notpl_any w)
  rw [np_idx, hr.out] at this
  exact this

/-! ### Names -/
def namesB (s : St) : Bool := (if s.kind = 1 ∨ s.kind = 4 ∨ s.kind = 5 then isNm s.name else true) && s.refs.all refB
theorem al_ref (w : World) (X Y : ByteArray) : Below w.heap.size w (w.alloc (.cells #[.string X, .string Y] 51)) := al1 _ _
set_option maxRecDepth 100000 in
set_option maxHeartbeats 8000000 in
/-- The loop of hasNames over the refs, and what comes before it. -/
theorem names_ok (s : St) (A : Addr) (R : Bool) (w : World) (h : Hid (stAt w s A)) (hR : Hid (namesB s = R)) :
    Calls Try.prog 66 #[.pointer (some A)] w fun e w' => e = .returned (.bool R) ∧ Below w.heap.size w w' := by
  obtain ⟨c0, c1, hnm, ⟨rv, c2, hrv⟩, _⟩ := (stAt_eq _ _ _).1 h.out
  obtain ⟨k, hk⟩ : ∃ k, s.kind = k := ⟨_, rfl⟩
  obtain ⟨r, hr⟩ : ∃ r, s.refs = r := ⟨_, rfl⟩
  obtain ⟨X, hX⟩ : ∃ X, bb s.name = X := ⟨_, rfl⟩
  have hXd : X.data.toList = s.name := by rw [← hX]
  have HZ : Hid (X.size ≤ maxLen) := Lib.hid (by rw [← b_size, hXd]; exact hnm)
  obtain ⟨nm, hnv⟩ : ∃ q, isNm s.name = q := ⟨_, rfl⟩
  have HNM : Hid (isNm X.data.toList = nm) := Lib.hid (by rw [hXd]; exact hnv)
  have hR2 := hR.out
  unfold namesB at hR2
  rw [hk, hr, hnv] at hR2
  rw [hk] at c0
  rw [hX] at c1
  rw [hr] at hrv
  obtain ⟨ro, rc, rfl, _, hrl, _⟩ := id hrv
  unfold maxLen at hrl
  have hrl : r.length ≤ 9223372036854775807 := by omega
  have HRV := Lib.hid hrv
  clear h hR hk hr hX hXd hnm hnv hrv
  have hw : ((k == 1) = true ∨ ((k == 1) = false ∧ (k == 4) = true) ∨ ((k == 1) = false ∧ (k == 4) = false ∧ (k == 5) = true)) ∧ (nm && r.all refB) = R ∨ ((k == 1) = false ∧ (k == 4) = false ∧ (k == 5) = false) ∧ r.all refB = R := by
    by_cases h1 : k = 1
    · exact Or.inl ⟨Or.inl (by simp [h1]), by rw [if_pos (Or.inl h1)] at hR2; exact hR2⟩
    by_cases h4 : k = 4
    · exact Or.inl ⟨Or.inr (Or.inl ⟨by simp [h1], by simp [h4]⟩), by rw [if_pos (Or.inr (Or.inl h4))] at hR2; exact hR2⟩
    by_cases h5 : k = 5
    · exact Or.inl ⟨Or.inr (Or.inr ⟨by simp [h1], by simp [h4], by simp [h5]⟩), by rw [if_pos (Or.inr (Or.inr h5))] at hR2; exact hR2⟩
    · exact Or.inr ⟨⟨by simp [h1], by simp [h4], by simp [h5]⟩, by rw [if_neg (by omega)] at hR2; simpa using hR2⟩
  clear hR2
  have hw2 : (∃ kk : Unit, (k == 1) = true ∧ nm = true ∧ r.all refB = R) ∨ (∃ kk : Unit, ((k == 1) = false ∧ (k == 4) = true) ∧ nm = true ∧ r.all refB = R) ∨ (∃ kk : Unit, ((k == 1) = false ∧ (k == 4) = false ∧ (k == 5) = true) ∧ nm = true ∧ r.all refB = R) ∨ (((k == 1) = true ∨ ((k == 1) = false ∧ (k == 4) = true) ∨ ((k == 1) = false ∧ (k == 4) = false ∧ (k == 5) = true)) ∧ nm = false ∧ R = false) ∨ (((k == 1) = false ∧ (k == 4) = false ∧ (k == 5) = false) ∧ r.all refB = R) := by
    rcases hw with ⟨a, b⟩ | b
    · cases nm
      · exact Or.inr (Or.inr (Or.inr (Or.inl ⟨a, rfl, b.symm⟩)))
      · rcases a with a | a | a
        · exact Or.inl ⟨(), a, rfl, b⟩
        · exact Or.inr (Or.inl ⟨(), a, rfl, b⟩)
        · exact Or.inr (Or.inr (Or.inl ⟨(), a, rfl, b⟩))
    · exact Or.inr (Or.inr (Or.inr (Or.inr b)))
  clear hw
  rcases hw2 with ⟨_, k1, rfl, hall⟩ | ⟨_, ⟨k1, k4⟩, rfl, hall⟩ | ⟨_, ⟨k1, k4, k5⟩, rfl, hall⟩ | ⟨hka, rfl, rfl⟩ | ⟨⟨k1, k4, k5⟩, hall⟩
  case inr.inr.inr.inl =>
    rcases hka with k1 | ⟨k1, k4⟩ | ⟨k1, k4, k5⟩
    all_goals
      go_enter Try.func66, Try.ntmps66
      go_wp2_with fail
      refine (isname_of _ _ _ HZ.out HNM).mono ?_
      rintro e w2 ⟨rfl, hb2⟩
      go_wp2
      go_ret
      exact ⟨rfl, hb2⟩
  case' inr.inr.inr.inr =>
    have hB2 : Below w.heap.size w w := Below.refl _ _
    have HALL := Lib.hid hall
    clear hall
    go_enter Try.func66, Try.ntmps66
    go_wp2_with fail
  case' inl =>
    have HALL := Lib.hid hall
    clear hall
    go_enter Try.func66, Try.ntmps66
    go_wp2_with fail
    refine (isname_of _ _ _ HZ.out HNM).mono ?_
    rintro e w2 ⟨rfl, hB2⟩
    have c2 := cell_later' hB2 c2
    go_wp2_with fail
  case' inr.inl =>
    have HALL := Lib.hid hall
    clear hall
    go_enter Try.func66, Try.ntmps66
    go_wp2_with fail
    refine (isname_of _ _ _ HZ.out HNM).mono ?_
    rintro e w2 ⟨rfl, hB2⟩
    have c2 := cell_later' hB2 c2
    go_wp2_with fail
  case' inr.inr.inl =>
    have HALL := Lib.hid hall
    clear hall
    go_enter Try.func66, Try.ntmps66
    go_wp2_with fail
    refine (isname_of _ _ _ HZ.out HNM).mono ?_
    rintro e w2 ⟨rfl, hB2⟩
    have c2 := cell_later' hB2 c2
    go_wp2_with fail
  all_goals
    clear c0 c1 c2 HNM HZ
    go_loopw [24] (fun iv wr => ∃ k : Nat, k ≤ r.length ∧ iv = .int .i64 k ∧ (r.take k).all refB = true ∧ Below w.heap.size w wr) (fun iv _ => r.length - (intOf iv).toNat)
    case atStart => exact ⟨0, Nat.zero_le _, rfl, rfl, hB2⟩
    case round =>
      obtain ⟨k, hk, rfl, hall, hBr⟩ := hrel
      rename World => wr
      have HA := Lib.hid hall
      clear hall hB2
      by_cases hlt : k < r.length
      · obtain ⟨B, rfl, p0, p1, z2, z3⟩ := (HRV.out.keep hBr).get hlt
        obtain ⟨x, hxe⟩ : ∃ x, r[k] = x := ⟨_, rfl⟩
        rw [hxe] at p0 p1 z2 z3
        obtain ⟨X1, hX1⟩ : ∃ Y, bb x.1 = Y := ⟨_, rfl⟩
        obtain ⟨X2, hX2⟩ : ∃ Y, bb x.2 = Y := ⟨_, rfl⟩
        have d1 : X1.data.toList = x.1 := by rw [← hX1]
        have d2 : X2.data.toList = x.2 := by rw [← hX2]
        have HS1 := Lib.hid (show X1.size ≤ maxLen by rw [← b_size, d1]; exact z2)
        have HS2 := Lib.hid (show X2.size ≤ maxLen by rw [← b_size, d2]; exact z3)
        rw [hX1] at p0
        rw [hX2] at p1
        have hBq := below_keep (al_ref wr X1 X2) hBr
        obtain ⟨v0, v1⟩ := at2_str wr X1 X2 51
        obtain ⟨n1, hn1⟩ : ∃ b, isNm x.1 = b := ⟨_, rfl⟩
        obtain ⟨n2, hn2⟩ : ∃ b, isNm x.2 = b := ⟨_, rfl⟩
        obtain ⟨m2, hm2⟩ : ∃ b, x.2.isEmpty = b := ⟨_, rfl⟩
        have HN1 : Hid (isNm X1.data.toList = n1) := Lib.hid (by rw [d1]; exact hn1)
        have HN2 : Hid (isNm X2.data.toList = n2) := Lib.hid (by rw [d2]; exact hn2)
        have he2 : X2.toList.isEmpty = m2 := by rw [ByteArray.toList_eq, d2]; exact hm2
        have HRB : Hid (refB r[k] = (n1 && (m2 || n2))) := Lib.hid (by rw [hxe]; unfold refB; rw [hn1, hn2, hm2])
        have i0 : (0 : Int) ≤ (k : Int) := by omega
        have i1 : (k : Int) < (r.length : Int) := by omega
        clear hX1 hX2 hn1 hn2 hm2 d1 d2 z2 z3 hxe
        go_wp2_with fail
        refine (isname_of _ _ _ HS1.out HN1).mono ?_
        rintro e w3 ⟨rfl, hb3⟩
        have v1 := cell_keep hb3 v1
        have hB3 := below_keep hb3 hBq
        have hw : n1 = false ∨ (n1 = true ∧ m2 = true) ∨ (n1 = true ∧ m2 = false ∧ n2 = true) ∨ (n1 = true ∧ m2 = false ∧ n2 = false) := by cases n1 <;> cases m2 <;> cases n2 <;> simp
        rcases hw with rfl | ⟨rfl, rfl⟩ | ⟨rfl, rfl, rfl⟩ | ⟨rfl, rfl, rfl⟩
        · have HN : Hid (false = R) := Lib.hid (by rw [← HALL.out, all_bad hlt HRB.out])
          obtain rfl := HN.out
          go_wp2
          go_ret
          exact ⟨rfl, hB3⟩
        · have HN := Lib.hid (all_next hlt HA.out HRB.out)
          go_wp2
          go_roundw
          case rel => exact ⟨k + 1, by omega, by go_num, HN.out, hB3⟩
          case measure => simp [intOf]; omega
        · have HN := Lib.hid (all_next hlt HA.out HRB.out)
          go_wp2_with fail
          refine (isname_of _ _ _ HS2.out HN2).mono ?_
          rintro e w4 ⟨rfl, hb4⟩
          go_wp2
          go_roundw
          case rel => exact ⟨k + 1, by omega, by go_num, HN.out, below_keep hb4 hB3⟩
          case measure => simp [intOf]; omega
        · have HN : Hid (false = R) := Lib.hid (by rw [← HALL.out, all_bad hlt HRB.out])
          obtain rfl := HN.out
          go_wp2_with fail
          refine (isname_of _ _ _ HS2.out HN2).mono ?_
          rintro e w4 ⟨rfl, hb4⟩
          go_wp2
          go_ret
          exact ⟨rfl, below_keep hb4 hB3⟩
      · obtain rfl : k = r.length := by omega
        have HN : Hid (true = R) := Lib.hid (by have := HA.out; rw [List.take_length] at this; rw [← HALL.out, this])
        obtain rfl := HN.out
        go_wp2
        go_ret
        exact ⟨rfl, hBr⟩
end Go.Proofs.Ytmpjdlhigmofdaa.tre
