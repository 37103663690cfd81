/-
  What Valid, Written and Join of the reference of layer 6 return. Conditions: few tokens with short texts for Join.
-/
import Derived.Test.YtcohjleolidngaaDoorLexVal
import Derived.Test.YtcohjleolidngaaDoorRefText
namespace Go.Proofs.YtcohjleolidngaaDoor
open Go.RowKit lex

set_option maxHeartbeats 4000000 in
theorem rvalid_any (kind num line : Int) (text : List UInt8) (w : World) (hs : text.length ≤ maxLen) :
    Calls Tryd.prog 12 #[.agg #[.int .i64 kind, .string (ba text), .int .i64 num, .int .i64 line]] w fun e w' => e = .returned (.bool (valB ⟨kind, text, num, line⟩)) ∧ Below w.heap.size w w' := by
  have hm : (ba text).size ≤ maxLen := by rw [ba_size]; exact hs
  have hm2 := hs
  unfold maxLen at hm2
  obtain ⟨r, hr⟩ : ∃ v, valB ⟨kind, text, num, line⟩ = v := ⟨_, rfl⟩
  rw [hr]
  unfold valB at hr
  simp only at hr
  obtain ⟨a, ha⟩ : ∃ v, isNm text = v := ⟨_, rfl⟩
  obtain ⟨b, hb⟩ : ∃ v, isKw text = v := ⟨_, rfl⟩
  obtain ⟨c, hc⟩ : ∃ v, text.all isPl = v := ⟨_, rfl⟩
  obtain ⟨d, hd⟩ : ∃ v, isMk text = v := ⟨_, rfl⟩
  rw [ha, hb, hc, hd] at hr
  have HA : Hid (isNm (ba text).data.toList = a) := Lib.hid (by rw [ba_list]; exact ha)
  have HB : Hid (isKw (ba text).data.toList = b) := Lib.hid (by rw [ba_list]; exact hb)
  have HC : Hid ((ba text).data.toList.all isPl = c) := Lib.hid (by rw [ba_list]; exact hc)
  have HD : Hid (isMk (ba text).data.toList = d) := Lib.hid (by rw [ba_list]; exact hd)
  clear ha hb hc hd
  by_cases k1 : kind = 1
  · subst k1
    rw [if_pos rfl] at hr
    have HR := Lib.hid hr
    clear hr
    go_enter Tryd.func12, Tryd.ntmps12
    go_wp2_with (go_at_call 21; refine (rname_of _ _ _ hm HA).mono ?_; rintro e w' ⟨rfl, rfl⟩)
    all_goals go_ret
    all_goals refine ⟨ret_bool ?_, al1 ..⟩
    all_goals (rw [← HR.out]; cases a <;> simp_all [beq_dec])
  by_cases k2 : kind = 2
  · subst k2
    rw [if_neg (by decide), if_pos rfl] at hr
    have HR := Lib.hid hr
    clear hr
    go_enter Tryd.func12, Tryd.ntmps12
    go_wp2_with (go_at_call 22; refine (rkw_of _ _ _ HB).mono ?_; rintro e w' ⟨rfl, rfl⟩)
    all_goals go_ret
    all_goals refine ⟨ret_bool ?_, al1 ..⟩
    all_goals (rw [← HR.out]; cases b <;> simp_all [beq_dec])
  by_cases k3 : kind = 3
  · subst k3
    rw [if_neg (by decide), if_neg (by decide), if_pos rfl] at hr
    have HR := Lib.hid hr
    clear hr
    by_cases h0 : text.length = 0
    · have hn : ((ba text).toList == []) = true := nil_yes (by rw [ba_size]; exact h0)
      obtain rfl : text = [] := List.length_eq_zero_iff.1 h0
      clear h0
      go_enter Tryd.func12, Tryd.ntmps12
      go_wp2
      all_goals go_ret
      all_goals refine ⟨ret_bool ?_, al1 ..⟩
      all_goals (rw [← HR.out, Bool.eq_iff_iff]; simp; omega)
    · have hn : ((ba text).toList == []) = false := nil_no (by rw [ba_size]; exact h0)
      have he : text.isEmpty = false := by cases text with
        | nil => exact absurd rfl h0
        | cons a t => rfl
      have HE := Lib.hid he
      clear h0
      go_enter Tryd.func12, Tryd.ntmps12
      go_wp2
      go_ret
      exact ⟨ret_bool (by rw [← HR.out, HE.out]; rfl), al1 ..⟩
  by_cases k4 : kind = 4
  · subst k4
    rw [if_neg (by decide), if_neg (by decide), if_neg (by decide), if_pos rfl] at hr
    have HR := Lib.hid hr
    have HZ := Lib.hid (ba_size text)
    clear hr
    by_cases h0 : (ba text).size ≤ 32
    · have h0' : text.length ≤ 32 := by rw [← ba_size]; exact h0
      have h0i : ((ba text).size : Int) ≤ 32 := by omega
      go_enter Tryd.func12, Tryd.ntmps12
      go_wp2_with (go_at_call 23; refine (rplain_of _ _ _ hm HC).mono ?_; rintro e w' ⟨rfl, rfl⟩)
      all_goals go_ret
      all_goals refine ⟨ret_bool ?_, al1 ..⟩
      all_goals (rw [← HR.out]; cases c <;> simp_all [beq_dec])
    · have h0' : ¬ text.length ≤ 32 := by rw [← ba_size]; exact h0
      have h0i : ¬ ((ba text).size : Int) ≤ 32 := by omega
      go_enter Tryd.func12, Tryd.ntmps12
      have HF := Lib.hid (decide_eq_false h0')
      go_wp2
      all_goals go_ret
      all_goals refine ⟨ret_bool ?_, al1 ..⟩
      all_goals (rw [← HR.out, HF.out]; rfl)
  by_cases k5 : kind = 5
  · subst k5
    rw [if_neg (by decide), if_neg (by decide), if_neg (by decide), if_neg (by decide), if_pos rfl] at hr
    have HR := Lib.hid hr
    clear hr
    go_enter Tryd.func12, Tryd.ntmps12
    go_wp2_with (go_at_call 24; refine (rmk_of _ _ _ HD).mono ?_; rintro e w' ⟨rfl, rfl⟩)
    all_goals go_ret
    all_goals refine ⟨ret_bool ?_, al1 ..⟩
    all_goals (rw [← HR.out]; cases d <;> simp_all [beq_dec])
  · rw [if_neg k1, if_neg k2, if_neg k3, if_neg k4, if_neg k5] at hr
    subst hr
    have e1 : (kind == 1) = false := by rw [beq_eq_false_iff_ne]; exact k1
    have e2 : (kind == 2) = false := by rw [beq_eq_false_iff_ne]; exact k2
    have e3 : (kind == 3) = false := by rw [beq_eq_false_iff_ne]; exact k3
    have e4 : (kind == 4) = false := by rw [beq_eq_false_iff_ne]; exact k4
    have e5 : (kind == 5) = false := by rw [beq_eq_false_iff_ne]; exact k5
    clear k1 k2 k3 k4 k5
    go_enter Tryd.func12, Tryd.ntmps12
    go_wp2
    go_ret
    exact ⟨rfl, al1 ..⟩
theorem rvalid_of (kind num line : Int) (text : List UInt8) (v : Bool) (w : World) (hs : text.length ≤ maxLen) (h : Hid (valB ⟨kind, text, num, line⟩ = v)) :
    Calls Tryd.prog 12 #[.agg #[.int .i64 kind, .string (ba text), .int .i64 num, .int .i64 line]] w fun e w' => e = .returned (.bool v) ∧ Below w.heap.size w w' := by
  rw [← h.out]; exact rvalid_any kind num line text w hs
set_option maxHeartbeats 1000000 in
theorem rwritten_of (kind num line : Int) (text : List UInt8) (q : ByteArray) (w : World) (hs : text.length ≤ maxLen) (hv : Hid (valB ⟨kind, text, num, line⟩ = true)) (hq : Hid (ba (wrt fmtL ⟨kind, text, num, line⟩) = q)) :
    Calls Tryd.prog 13 #[.agg #[.int .i64 kind, .string (ba text), .int .i64 num, .int .i64 line]] w fun e w' => e = .returned (.string q) ∧ Below w.heap.size w w' := by
  have hm : (ba text).size ≤ maxLen := by rw [ba_size]; exact hs
  by_cases k3 : kind = 3
  · have hn := valB_num hv.out k3
    have hx : (⟨(fmtL num).toArray⟩ : ByteArray) = q := by rw [← hq.out]; unfold wrt; simp only; rw [if_pos k3]
    have HF : ∀ w, Calls Tryd.prog 25 #[.int .i64 num] w fun e w' => e = .returned (.string q) ∧ Below w.heap.size w w' := by
      intro w
      have := refFormat_any num w (by omega) (by omega)
      rw [hx] at this
      exact this.mono fun _ _ h => ⟨h.1, by rw [h.2]; exact Below.refl _ _⟩
    have HG := Lib.hid HF
    clear HF hn hx
    subst k3
    go_enter Tryd.func13, Tryd.ntmps13
    go_wp2_with (go_at_call 25; refine (HG.out _).mono ?_; rintro e w1 ⟨rfl, hb1⟩)
    go_ret
    exact ⟨rfl, below_keep hb1 (al1 ..)⟩
  by_cases k4 : kind = 4
  · have hx : ba (quoL text) = q := by rw [← hq.out]; unfold wrt; simp only; rw [if_neg k3, if_pos k4]
    have HQ : Hid (quoE (ba text).data.toList = (quoL text, 0)) := Lib.hid (by rw [ba_list]; exact valB_str hv.out k4)
    subst hx
    clear k3 hq hv
    subst k4
    go_enter Tryd.func13, Tryd.ntmps13
    go_wp2_with (go_at_call 26; refine (rquote_of _ _ _ _ hm HQ).mono ?_; rintro e w' ⟨rfl, rfl⟩)
    go_ret
    exact ⟨rfl, al1 ..⟩
  · have hx : ba text = q := by rw [← hq.out]; unfold wrt; simp only; rw [if_neg k3, if_neg k4]
    subst hx
    have e3 : (kind == 3) = false := by rw [beq_eq_false_iff_ne]; exact k3
    have e4 : (kind == 4) = false := by rw [beq_eq_false_iff_ne]; exact k4
    clear k3 k4 hq hv
    go_enter Tryd.func13, Tryd.ntmps13
    go_wp2
    go_ret
    exact ⟨rfl, al1 ..⟩
set_option maxRecDepth 100000 in
set_option maxHeartbeats 8000000 in
theorem rjoin_some (A : Addr) (cap : Nat) (l : List Tok) (q0 : List UInt8) (e0 : Int) (w : World) (h0 : 0 < l.length) (hl : l.length ≤ 200) (ht : Hid (∀ t ∈ l, t.text.length ≤ 200)) (hT : Hid (Tl w (.slice (some A) l.length cap) l)) (hj : Hid (joinE l = (q0, e0))) :
    Calls Tryd.prog 8 #[.slice (some A) l.length cap] w fun e w' => e = .returned (.tuple #[.string (ba q0), .int .i64 e0]) ∧ Below w.heap.size w w' := by
  go_enter Tryd.func8, Tryd.ntmps8
  go_wp2_with fail
  go_loopw [4] (fun i wr => ∃ k : Nat, k ≤ l.length ∧ i = .int .i64 k ∧ (l.take k).all valB = true ∧ Below w.heap.size w wr) (fun i _ => l.length - (intOf i).toNat)
  case atStart => exact ⟨0, Nat.zero_le _, rfl, rfl, Below.refl _ _⟩
  case round =>
    obtain ⟨k, hk, rfl, hall, hB⟩ := hrel
    rename World => wr
    have HALL := Lib.hid hall
    clear hall
    by_cases hlt : k < l.length
    · obtain ⟨A', eA, _, a0, a1, a2, a3⟩ := (hT.out.keep hB).at' hlt
      obtain rfl : A = A' := Option.some.inj eA
      have hx := ht.out _ (tokAt_mem hlt)
      obtain ⟨v, hv⟩ : ∃ v, valB (tokAt l k) = v := ⟨_, rfl⟩
      have HV := Lib.hid hv
      have HT0 : Hid (valB (tokAt l k) = v) := HV
      clear hv
      have z0 : (0 : Int) ≤ (k : Int) := by omega
      have z1 : (k : Int) < (l.length : Int) := by omega
      obtain ⟨t, hte⟩ : ∃ t, tokAt l k = t := ⟨_, rfl⟩
      rw [hte] at a0 a1 a2 a3 hx HV
      have HTE := Lib.hid hte
      clear hte
      obtain ⟨kd, tx, nm, ln⟩ := t
      simp only at a0 a1 a2 a3 hx
      have hx2 : tx.length ≤ maxLen := by unfold maxLen; omega
      cases v
      · obtain ⟨rfl, rfl⟩ : q0 = [] ∧ e0 = 1 := by
          have := hj.out
          unfold joinE at this
          rw [if_pos (all_no hlt HT0.out)] at this
          simp only [Prod.mk.injEq] at this
          exact ⟨this.1.symm, this.2.symm⟩
        go_wp2_with (go_at_call 12; refine (rvalid_of _ _ _ _ _ _ hx2 HV).mono ?_; rintro e w1 ⟨rfl, hb1⟩)
        go_ret2
        exact ⟨rfl, below_keep hb1 hB⟩
      · go_wp2_with (go_at_call 12; refine (rvalid_of _ _ _ _ _ _ hx2 HV).mono ?_; rintro e w1 ⟨rfl, hb1⟩)
        go_roundw
        case rel => exact ⟨k + 1, by omega, by go_num, all_take hlt HALL.out HT0.out, below_keep hb1 hB⟩
        case measure => simp [intOf]; omega
    · obtain rfl : k = l.length := by omega
      have HV : Hid (l.all valB = true) := Lib.hid (by have := HALL.out; rw [List.take_of_length_le (Nat.le_refl _)] at this; exact this)
      have HJ : Hid ((if 16384 < (joinL fmtL l).length then ([], 2) else (joinL fmtL l, 0)) = (q0, e0)) := Lib.hid (by
        have := hj.out
        unfold joinE at this
        rw [if_neg (by rw [HV.out]; simp)] at this
        exact this)
      clear hj HALL
      go_wp2_with fail
      go_loopw [5, 6] (fun o i wq => ∃ (b : ByteArray) (j : Nat), j ≤ l.length ∧ o = .string b ∧ i = .int .i64 j ∧ b.data.toList = joinL fmtL (l.take j) ∧ b.size ≤ 16384 ∧ Below w.heap.size w wq) (fun _ i _ => l.length - (intOf i).toNat)
      case atStart => exact ⟨_, 0, Nat.zero_le _, rfl, rfl, rfl, by decide, hB⟩
      case round =>
        obtain ⟨b, j, hj, rfl, rfl, hb, hbs, hBq⟩ := hrel
        rename World => wq
        have HBL := Lib.hid hb
        clear hb
        by_cases hlt : j < l.length
        · obtain ⟨A', eA, _, a0, a1, a2, a3⟩ := (hT.out.keep hBq).at' hlt
          obtain rfl : A = A' := Option.some.inj eA
          have hx := ht.out _ (tokAt_mem hlt)
          have hv := all_at hlt HV.out
          have hw := wrt_len _ hx hv
          have z0 : (0 : Int) ≤ (j : Int) := by omega
          have z1 : (j : Int) < (l.length : Int) := by omega
          obtain ⟨t, hte⟩ : ∃ t, tokAt l j = t := ⟨_, rfl⟩
          rw [hte] at a0 a1 a2 a3 hx hv hw
          have HTE := Lib.hid hte
          have HVV := Lib.hid hv
          clear hte hv
          obtain ⟨kd, tx, nm, ln⟩ := t
          simp only at a0 a1 a2 a3 hx
          have hx2 : tx.length ≤ maxLen := by unfold maxLen; omega
          obtain ⟨q, hq⟩ : ∃ q, ba (wrt fmtL ⟨kd, tx, nm, ln⟩) = q := ⟨_, rfl⟩
          have hqs : q.size ≤ 500 := by rw [← hq, ba_size]; exact hw
          have HQ := Lib.hid hq
          have HQL : Hid (q.data.toList = wrt fmtL ⟨kd, tx, nm, ln⟩) := Lib.hid (by rw [← hq, ba_list])
          clear hq hw
          by_cases hj0 : j = 0
          · have HN : Hid (joinL fmtL (l.take (j + 1)) = wrt fmtL ⟨kd, tx, nm, ln⟩) := Lib.hid (by rw [take_tok hlt, joinL_snoc, HTE.out, if_pos (by rw [hj0]; rfl)])
            have HJ0 := Lib.hid hj0
            have HB0 : Hid (b.size = 0) := Lib.hid (by rw [← size_list, HBL.out, hj0]; rfl)
            have hd0 : decide (0 < j) = false := by simp [hj0]
            clear hj0
            by_cases hbig : 16384 < b.size + q.size
            · obtain ⟨rfl, rfl⟩ : q0 = [] ∧ e0 = 2 := by
                have h2 := joinL_take fmtL l (j + 1)
                have h3 : (joinL fmtL (l.take (j + 1))).length = b.size + q.size := by rw [HN.out, ← HQL.out, size_list, HB0.out]; omega
                have := HJ.out
                rw [if_pos (by omega)] at this
                simp only [Prod.mk.injEq] at this
                exact ⟨this.1.symm, this.2.symm⟩
              go_wp2_with (go_at_call 13; refine (rwritten_of _ _ _ _ _ _ hx2 HVV HQ).mono ?_; rintro e w1 ⟨rfl, hb1⟩)
              go_ret2
              exact ⟨rfl, below_keep hb1 hBq⟩
            · have hsm : b.size + q.size ≤ 16384 := by omega
              clear hbig
              go_wp2_with (go_at_call 13; refine (rwritten_of _ _ _ _ _ _ hx2 HVV HQ).mono ?_; rintro e w1 ⟨rfl, hb1⟩)
              go_roundw
              case rel => exact ⟨_, j + 1, by omega, rfl, by go_num, by rw [HN.out, ba_add, HBL.out, HQL.out]; rw [HJ0.out]; rfl, by simp; omega, below_keep hb1 hBq⟩
              case measure => simp [intOf]; omega
          · have hjp : 0 < j := by omega
            have hd0 : decide (0 < j) = true := by simp; omega
            clear hj0
            have HN : Hid (joinL fmtL (l.take (j + 1)) = joinL fmtL (l.take j) ++ 32 :: wrt fmtL ⟨kd, tx, nm, ln⟩) := Lib.hid (by rw [take_tok hlt, joinL_snoc, HTE.out, if_neg (take_ne hjp h0)])
            by_cases hbig : 16384 < b.size + 1 + q.size
            · obtain ⟨rfl, rfl⟩ : q0 = [] ∧ e0 = 2 := by
                have h2 := joinL_take fmtL l (j + 1)
                have h3 : (joinL fmtL (l.take (j + 1))).length = b.size + 1 + q.size := by rw [HN.out, ← HBL.out, ← HQL.out]; simp; omega
                have := HJ.out
                rw [if_pos (by omega)] at this
                simp only [Prod.mk.injEq] at this
                exact ⟨this.1.symm, this.2.symm⟩
              go_wp2_with (go_at_call 13; refine (rwritten_of _ _ _ _ _ _ hx2 HVV HQ).mono ?_; rintro e w1 ⟨rfl, hb1⟩)
              go_ret2
              exact ⟨rfl, below_keep hb1 hBq⟩
            · have hsm : b.size + 1 + q.size ≤ 16384 := by omega
              clear hbig
              go_wp2_with (go_at_call 13; refine (rwritten_of _ _ _ _ _ _ hx2 HVV HQ).mono ?_; rintro e w1 ⟨rfl, hb1⟩)
              go_roundw
              case rel => exact ⟨_, j + 1, by omega, rfl, by go_num, by rw [HN.out, ba_add, ba_add, HBL.out, HQL.out]; simp, by rw [ByteArray.size_append, ByteArray.size_append]; show b.size + 1 + q.size ≤ _; omega, below_keep hb1 hBq⟩
              case measure => simp [intOf]; omega
        · obtain rfl : j = l.length := by omega
          have HF : Hid (b.data.toList = joinL fmtL l) := Lib.hid (by have := HBL.out; rw [List.take_of_length_le (Nat.le_refl _)] at this; exact this)
          have HE : Hid (q0 = joinL fmtL l ∧ e0 = 0) := Lib.hid (by
            have hz : (joinL fmtL l).length = b.size := by rw [← HF.out, size_list]
            have := HJ.out
            rw [if_neg (by omega)] at this
            simp only [Prod.mk.injEq] at this
            exact ⟨this.1.symm, this.2.symm⟩)
          obtain ⟨rfl, rfl⟩ := HE.out
          go_wp2
          go_ret2
          exact ⟨ret_sn (ba_of HF.out), hBq⟩
theorem rjoin_none (ao : Option Addr) (cap : Nat) (w : World) :
    Calls Tryd.prog 8 #[.slice ao 0 cap] w fun e w' => e = .returned (.tuple #[.string (ba []), .int .i64 0]) ∧ Below w.heap.size w w' := by
  go_enter Tryd.func8, Tryd.ntmps8
  go_wp2_with fail
  go_loopw [4] (fun i wr => i = .int .i64 0 ∧ w = wr) (fun _ _ => 0)
  case atStart => exact ⟨rfl, rfl⟩
  case round =>
    obtain ⟨rfl, rfl⟩ := hrel
    go_wp2_with fail
    go_loopw [5, 6] (fun o i wr => o = .string (ba []) ∧ i = .int .i64 0 ∧ w = wr) (fun _ _ _ => 0)
    case atStart => exact ⟨rfl, rfl, rfl⟩
    case round =>
      obtain ⟨rfl, rfl, rfl⟩ := hrel
      go_wp2
      go_ret2
      exact ⟨rfl, Below.refl _ _⟩
theorem rjoin_of (v : Value) (l : List Tok) (q0 : List UInt8) (e0 : Int) (w : World) (hl : l.length ≤ 200) (ht : Hid (∀ t ∈ l, t.text.length ≤ 200)) (hT : Hid (Tl w v l)) (hj : Hid (joinE l = (q0, e0))) :
    Calls Tryd.prog 8 #[v] w fun e w' => e = .returned (.tuple #[.string (ba q0), .int .i64 e0]) ∧ Below w.heap.size w w' := by
  obtain ⟨ao, c, rfl, _, hA⟩ := hT.out
  rcases Nat.eq_zero_or_pos l.length with h | h
  · obtain rfl : l = [] := List.length_eq_zero_iff.1 h
    obtain ⟨rfl, rfl⟩ : q0 = [] ∧ e0 = 0 := by
      have := hj.out
      unfold joinE at this
      rw [if_neg (by simp), if_neg (by simp [joinL])] at this
      simp only [Prod.mk.injEq, joinL] at this
      exact ⟨this.1.symm, this.2.symm⟩
    exact rjoin_none ao c w
  · obtain ⟨A, rfl, _⟩ := hA h
    exact rjoin_some A c l q0 e0 w h hl ht hT hj
end Go.Proofs.YtcohjleolidngaaDoor
