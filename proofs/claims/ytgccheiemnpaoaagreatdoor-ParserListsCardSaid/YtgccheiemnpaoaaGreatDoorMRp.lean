/-
  What value, list, refs and after of the reference of layer 8 return. Conditions: short values; attributes and references as valid statements have them.
  What stmt and stmts of the reference of layer 8 return. Conditions: statements as a valid tree has them; texts of at most a million bytes.
  What Print and Attrs of the reference of layer 8 return. Conditions: trees of at most 600 statements with few references and attributes each, texts of at most a million bytes; at most 40 attributes.
-/
import Derived.Test.YtgccheiemnpaoaaGreatDoorRefLex2
import Derived.Test.YtgccheiemnpaoaaGreatDoorMRf
import Derived.Test.YtgccheiemnpaoaaGreatDoorTreAtt
import Derived.Test.YtgccheiemnpaoaaGreatDoorMPo
import Derived.Lib.QuietBelow
import Derived.Test.YtgccheiemnpaoaaGreatDoorMTv
namespace Go.Proofs.YtgccheiemnpaoaaGreatDoor.prt
open Go.RowKit Go.Sort lex tre

theorem ret_str {a b : ByteArray} (h : a = b) : Ending.returned (.string a) = .returned (.string b) := by rw [h]
theorem ba_eq {a b : ByteArray} (h : a.data.toList = b.data.toList) : a = b := ba_ext h
set_option maxHeartbeats 2000000 in
theorem rvalue_of (s Q : ByteArray) (w : World) (hs : s.size ≤ 32) (hp : Hid (s.data.toList.all isPl = true)) (hq : Hid (valS prL s.data.toList = Q.data.toList)) :
    Calls Tryz.prog 40 #[.string s] w fun e w' => e = .returned (.string Q) ∧ w = w' := by
  have hm : s.size ≤ maxLen := by unfold maxLen; omega
  have hr := hq.out
  unfold valS at hr
  obtain ⟨n, hn⟩ : ∃ b, isNm s.data.toList = b := ⟨_, rfl⟩
  have HN := Lib.hid hn
  rw [hn] at hr
  clear hn hq
  cases n
  · rw [if_neg Bool.false_ne_true] at hr
    obtain ⟨pn, pe, hpe⟩ : ∃ a b, prL s.data.toList = (a, b) := ⟨_, _, rfl⟩
    have HP : Hid (parseV s.data.toList = .tuple #[.int .i64 pn, .int .i64 pe]) := Lib.hid (by rw [parseV_pr, hpe])
    rw [hpe] at hr
    simp only at hr
    clear hpe
    by_cases h0 : pe = 0
    · rw [if_pos h0] at hr
      subst h0
      have HE : Hid (s = Q) := Lib.hid (ba_eq hr)
      clear hr hp
      go_enter Tryz.func40, Tryz.ntmps40
      go_wp2_with (first | (go_at_call 55; refine (rname_of _ _ _ hm HN).mono ?_; rintro e w' ⟨rfl, rfl⟩) | (go_at_call 56; refine (refParse_of _ _ _ (by omega) HP).mono ?_; rintro e w' ⟨rfl, rfl⟩))
      go_ret
      exact ⟨ret_str HE.out, rfl⟩
    · rw [if_neg h0] at hr
      have b0 : (pe == 0) = false := by rw [beq_eq_false_iff_ne]; exact h0
      have HQ : Hid (quoE s.data.toList = (quoL s.data.toList, 0)) := Lib.hid (by unfold quoE; rw [size_list, if_neg (by omega), if_pos hp.out])
      have HE : Hid (ba (quoL s.data.toList) = Q) := Lib.hid (ba_eq (by rw [← hr]))
      clear hr h0 hp
      go_enter Tryz.func40, Tryz.ntmps40
      go_wp2_with (first | (go_at_call 55; refine (rname_of _ _ _ hm HN).mono ?_; rintro e w' ⟨rfl, rfl⟩) | (go_at_call 56; refine (refParse_of _ _ _ (by omega) HP).mono ?_; rintro e w' ⟨rfl, rfl⟩) | (go_at_call 57; refine (rquote_of _ _ _ _ hm HQ).mono ?_; rintro e w' ⟨rfl, rfl⟩))
      go_ret
      exact ⟨ret_str HE.out, rfl⟩
  · rw [if_pos rfl] at hr
    have HE : Hid (s = Q) := Lib.hid (ba_eq hr)
    clear hr hp
    go_enter Tryz.func40, Tryz.ntmps40
    go_wp2_with (go_at_call 55; refine (rname_of _ _ _ hm HN).mono ?_; rintro e w' ⟨rfl, rfl⟩)
    go_ret
    exact ⟨ret_str HE.out, rfl⟩
theorem take_all {l : List Pr} : l.take l.length = l := List.take_length
set_option maxRecDepth 100000 in
set_option maxHeartbeats 8000000 in
theorem rlist_of (l : List Pr) (v : Value) (Q : ByteArray) (w : World) (h : Hid (Prs w v l)) (hl : l.length ≤ 40) (ho : Hid (attOk l)) (hq : Hid (attS prL l = Q.data.toList)) :
    Calls Tryz.prog 28 #[v] w fun e w' => e = .returned (.string Q) ∧ Below w.heap.size w w' := by
  have hmx : Tryz.prog.follows .mixedOrders = true := by kernel_rfl
  obtain ⟨ao, cap, rfl, -, -, -⟩ := id h.out
  rcases Nat.eq_zero_or_pos l.length with h0 | h0
  · obtain rfl : l = [] := List.length_eq_zero_iff.1 h0
    have HE : Hid ((⟨#[]⟩ : ByteArray) = Q) := Lib.hid (ba_eq (by rw [← hq.out]; rfl))
    clear h hl ho hq h0
    go_enter Tryz.func28, Tryz.ntmps28
    go_wp2
    go_ret
    exact ⟨ret_str HE.out, Below.refl _ _⟩
  have HQ : Hid (91 :: (attJ l ++ [93]) = Q.data.toList) := Lib.hid (by rw [← attS_join (by intro e; rw [e] at h0; simp at h0)]; exact hq.out)
  have b0 : ((l.length : Int) == 0) = false := by rw [beq_eq_false_iff_ne]; omega
  clear hq h0
  go_enter Tryz.func28, Tryz.ntmps28
  go_wp2_with fail
  go_loopw [3, 4] (fun s i wr => ∃ (b : ByteArray) (k : Nat), k ≤ l.length ∧ s = .string b ∧ i = .int .i64 k ∧ b.data.toList = 91 :: attJ (l.take k) ∧ b.size ≤ 4000 ∧ Below w.heap.size w wr) (fun _ i _ => l.length - (intOf i).toNat)
  case atStart => exact ⟨_, 0, Nat.zero_le _, rfl, rfl, rfl, by decide, Below.refl _ _⟩
  case round =>
    obtain ⟨b, k, hk, rfl, rfl, hb, hbs, hB⟩ := hrel
    rename World => wr
    have HBL := Lib.hid hb
    have HBS := Lib.hid hbs
    clear hb b0
    by_cases hlt : k < l.length
    · obtain ⟨A, rfl, p0, p1, z2, z3⟩ := (h.out.keep hB).get hlt
      have hat := ho.out _ (List.getElem_mem hlt)
      have HJ := Lib.hid (attJ_snoc (l.take k) l[k])
      have HJL := Lib.hid (attJ_len (ok_take ho.out (k + 1)))
      have HTK := Lib.hid (take_pr hlt)
      obtain ⟨x, hx⟩ : ∃ x, l[k] = x := ⟨_, rfl⟩
      rw [hx] at p0 p1 z2 z3 hat HJ HTK
      clear hx
      have s16 := nm_le hat.1
      obtain ⟨X, hX⟩ : ∃ Y, bb x.1 = Y := ⟨_, rfl⟩
      obtain ⟨Y, hY⟩ : ∃ Y, bb x.2 = Y := ⟨_, rfl⟩
      obtain ⟨V, hV⟩ : ∃ V, bb (valS prL x.2) = V := ⟨_, rfl⟩
      have d1 : X.data.toList = x.1 := by rw [← hX]
      have d2 : Y.data.toList = x.2 := by rw [← hY]
      have d3 : V.data.toList = valS prL x.2 := by rw [← hV]
      have s1 : X.size ≤ 16 := by rw [← b_size, d1]; exact s16
      have s2 : Y.size ≤ 32 := by rw [← b_size, d2]; exact hat.2.1
      have s3 : V.size ≤ 66 := by rw [← b_size, d3]; exact val_len hat.2.1
      rw [hX] at p0
      rw [hY] at p1
      have HP : Hid (Y.data.toList.all isPl = true) := Lib.hid (by rw [d2]; exact hat.2.2)
      have HV : Hid (valS prL Y.data.toList = V.data.toList) := Lib.hid (by rw [d2, d3])
      have HA : Hid (attB prL x = X.data.toList ++ (61 :: V.data.toList)) := Lib.hid (by rw [d1, d3]; rfl)
      have t0 := fun d os => cell_regrown p0 d os
      have t1 := fun d os => cell_regrown p1 d os
      have cV := fun d os => Calls.regrown_of (w := wr) (d := d) (os := os) ((rvalue_of Y V (grow (redrawn wr d) os) s2 HP HV).mono fun _ _ h => ⟨h.1, by rw [← h.2]; exact Below.refl _ _⟩)
      have z0 : (0 : Int) ≤ (k : Int) := by omega
      have z1 : (k : Int) < (l.length : Int) := by omega
      clear hat s16 hX hY hV d1 d2 d3 z2 z3 p0 p1
      by_cases hk0 : k = 0
      · have HN : Hid (attJ (l.take (k + 1)) = attB prL x) := Lib.hid (by rw [HTK.out, HJ.out, hk0]; rfl)
        have HK : Hid (b.data.toList = [91]) := Lib.hid (by rw [HBL.out, hk0]; rfl)
        have e1 : decide ((0 : Int) < (k : Int)) = false := by simp [hk0]
        have e2 : decide (0 < k) = false := by simp [hk0]
        clear hk0 HJ HTK HBL
        go_wp2_with fail
        refine wp_region_quiet_below hmx (by kernel_rfl) ?_
        repeat (go_big_quiet_step (with_reducible exact cV _ _))
        refine wpQuiet_nil ?_
        intro _ hw'
        obtain ⟨⟨dq, osq⟩, hw''⟩ := hw'
        subst hw''
        have hBz := below_keep (below_regrown wr dq osq) hB
        have hfin : (b ++ X ++ ⟨#[61]⟩ ++ V).data.toList = 91 :: attJ (l.take (k + 1)) := by
          rw [HN.out, HA.out]; simp [HK.out]
        have hsz : (b ++ X ++ ⟨#[61]⟩ ++ V).size ≤ 4000 := by
          have hz := HJL.out
          rw [← b_size, hfin, List.length_cons]
          rw [List.length_take] at hz
          omega
        go_wp2
        go_roundw
        case rel => exact ⟨_, k + 1, by omega, rfl, by go_num, hfin, hsz, hBz⟩
        case measure => simp [intOf]; omega
      · have HN : Hid (attJ (l.take (k + 1)) = attJ (l.take k) ++ ([44, 32] ++ attB prL x)) := Lib.hid (by
          rw [HTK.out, HJ.out, if_neg]
          intro e
          have := List.isEmpty_iff.1 e
          rw [List.take_eq_nil_iff] at this
          rcases this with e | e
          · exact hk0 e
          · rw [e] at hlt; simp at hlt)
        have e1 : decide ((0 : Int) < (k : Int)) = true := by simp; omega
        have e2 : decide (0 < k) = true := by simp; omega
        clear hk0 HJ HTK
        have hbq : (b ++ ⟨#[44, 32]⟩).size ≤ 4002 := by rw [ByteArray.size_append]; show b.size + 2 ≤ _; omega
        go_wp2_with fail
        refine wp_region_quiet_below hmx (by kernel_rfl) ?_
        repeat (go_big_quiet_step (with_reducible exact cV _ _))
        refine wpQuiet_nil ?_
        intro _ hw'
        obtain ⟨⟨dq, osq⟩, hw''⟩ := hw'
        subst hw''
        have hBz := below_keep (below_regrown wr dq osq) hB
        have hfin : (b ++ ⟨#[44, 32]⟩ ++ X ++ ⟨#[61]⟩ ++ V).data.toList = 91 :: attJ (l.take (k + 1)) := by
          rw [HN.out, HA.out]; simp [HBL.out]
        have hsz : (b ++ ⟨#[44, 32]⟩ ++ X ++ ⟨#[61]⟩ ++ V).size ≤ 4000 := by
          have hz := HJL.out
          rw [← b_size, hfin, List.length_cons]
          rw [List.length_take] at hz
          omega
        go_wp2
        go_roundw
        case rel => exact ⟨_, k + 1, by omega, rfl, by go_num, hfin, hsz, hBz⟩
        case measure => simp [intOf]; omega
    · obtain rfl : k = l.length := by omega
      have HE : Hid (b ++ ⟨#[93]⟩ = Q) := Lib.hid (ba_eq (by rw [← HQ.out, ba_add, HBL.out, take_all]; simp))
      go_wp2
      go_ret
      exact ⟨ret_str HE.out, hB⟩
theorem prt_str {p : ByteArray} : (p.toList.isEmpty = true → prtP p.data.toList = []) ∧ (p.toList.isEmpty = false → prtP p.data.toList = 58 :: p.data.toList) := by
  rw [ByteArray.toList_eq]
  constructor
  · intro h; unfold prtP; rw [if_pos h]
  · intro h; unfold prtP; rw [if_neg (by rw [h]; decide)]
set_option maxRecDepth 100000 in
set_option maxHeartbeats 8000000 in
theorem rrefs_of (l : List Pr) (d : Bool) (v : Value) (Q : ByteArray) (w : World) (h : Hid (Prs w v l)) (hl : l.length ≤ 40) (ho : Hid (refOk l)) (hq : Hid (refS d l = Q.data.toList)) :
    Calls Tryz.prog 42 #[v, .bool d] w fun e w' => e = .returned (.string Q) ∧ Below w.heap.size w w' := by
  obtain ⟨ao, cap, rfl, -, -, -⟩ := id h.out
  go_enter Tryz.func42, Tryz.ntmps42
  go_wp2_with fail
  go_loopw [5, 6] (fun s i wr => ∃ (b : ByteArray) (k : Nat), k ≤ l.length ∧ s = .string b ∧ i = .int .i64 k ∧ b.data.toList = refS d (l.take k) ∧ b.size ≤ 2000 ∧ Below w.heap.size w wr) (fun _ i _ => l.length - (intOf i).toNat)
  case atStart => exact ⟨_, 0, Nat.zero_le _, rfl, rfl, rfl, by decide, Below.refl _ _⟩
  case round =>
    obtain ⟨b, k, hk, rfl, rfl, hb, hbs, hB⟩ := hrel
    rename World => wr
    have HBL := Lib.hid hb
    clear hb
    by_cases hlt : k < l.length
    · obtain ⟨A, rfl, p0, p1, z2, z3⟩ := (h.out.keep hB).get hlt
      have hat := ho.out _ (List.getElem_mem hlt)
      have HJ := Lib.hid (refS_snoc d (l.take k) l[k])
      have HJL := Lib.hid (refS_len d (rok_take ho.out (k + 1)))
      have HTK := Lib.hid (take_pr hlt)
      obtain ⟨x, hx⟩ : ∃ x, l[k] = x := ⟨_, rfl⟩
      rw [hx] at p0 p1 z2 z3 hat HJ HTK
      clear hx
      have s16 := nm_le hat.1
      obtain ⟨X, hX⟩ : ∃ Y, bb x.1 = Y := ⟨_, rfl⟩
      obtain ⟨Y, hY⟩ : ∃ Y, bb x.2 = Y := ⟨_, rfl⟩
      have d1 : X.data.toList = x.1 := by rw [← hX]
      have d2 : Y.data.toList = x.2 := by rw [← hY]
      have s1 : X.size ≤ 16 := by rw [← b_size, d1]; exact s16
      have s2 : Y.size ≤ 16 := by
        rw [← b_size, d2]
        rcases hat.2 with e | e
        · rw [e]; simp
        · exact nm_le e
      rw [hX] at p0
      rw [hY] at p1
      have HA : Hid (refX x = X.data.toList ++ prtP Y.data.toList) := Lib.hid (by rw [d1, d2]; rfl)
      have z0 : (0 : Int) ≤ (k : Int) := by omega
      have z1 : (k : Int) < (l.length : Int) := by omega
      clear hat s16 hX hY d1 d2 z2 z3
      obtain ⟨pe, hpe⟩ : ∃ e, Y.toList.isEmpty = e := ⟨_, rfl⟩
      have HPE := Lib.hid hpe
      by_cases hk0 : k = 0
      · have HN : Hid (refS d (l.take (k + 1)) = refX x) := Lib.hid (by rw [HTK.out, HJ.out, hk0]; rfl)
        have HK : Hid (b.data.toList = []) := Lib.hid (by rw [HBL.out, hk0]; rfl)
        have e1 : decide ((0 : Int) < (k : Int)) = false := by simp [hk0]
        have e2 : decide (0 < k) = false := by simp [hk0]
        clear hk0 HJ HTK HBL
        cases pe
        · have hfin : (b ++ X ++ ⟨#[58]⟩ ++ Y).data.toList = refS d (l.take (k + 1)) := by
            rw [HN.out, HA.out, prt_str.2 HPE.out]; simp [HK.out]
          have hsz : (b ++ X ++ ⟨#[58]⟩ ++ Y).size ≤ 2000 := by
            have hz := HJL.out
            rw [← b_size, hfin]
            rw [List.length_take] at hz
            omega
          have HF := Lib.hid hfin
          have HZ := Lib.hid hsz
          clear hfin hsz
          go_wp2_with fail
          go_roundw
          case rel => exact ⟨_, k + 1, by omega, rfl, by go_num, HF.out, HZ.out, hB⟩
          case measure => simp [intOf]; omega
        · have hfin : (b ++ X).data.toList = refS d (l.take (k + 1)) := by
            rw [HN.out, HA.out, prt_str.1 HPE.out]; simp [HK.out]
          have hsz : (b ++ X).size ≤ 2000 := by
            have hz := HJL.out
            rw [← b_size, hfin]
            rw [List.length_take] at hz
            omega
          have HF := Lib.hid hfin
          have HZ := Lib.hid hsz
          clear hfin hsz
          go_wp2_with fail
          go_roundw
          case rel => exact ⟨_, k + 1, by omega, rfl, by go_num, HF.out, HZ.out, hB⟩
          case measure => simp [intOf]; omega
      · have HN : Hid (refS d (l.take (k + 1)) = refS d (l.take k) ++ (arrS d ++ refX x)) := Lib.hid (by
          rw [HTK.out, HJ.out, if_neg]
          intro e
          have := List.isEmpty_iff.1 e
          rw [List.take_eq_nil_iff] at this
          rcases this with e | e
          · exact hk0 e
          · rw [e] at hlt; simp at hlt)
        have e1 : decide ((0 : Int) < (k : Int)) = true := by simp; omega
        have e2 : decide (0 < k) = true := by simp; omega
        clear hk0 HJ HTK
        cases pe
        · have hfin : (b ++ ⟨(arrS d).toArray⟩ ++ X ++ ⟨#[58]⟩ ++ Y).data.toList = refS d (l.take (k + 1)) := by
            rw [HN.out, HA.out, prt_str.2 HPE.out]; simp [HBL.out]
          have hsz : (b ++ ⟨(arrS d).toArray⟩ ++ X ++ ⟨#[58]⟩ ++ Y).size ≤ 2000 := by
            have hz := HJL.out
            rw [← b_size, hfin]
            rw [List.length_take] at hz
            omega
          have HF := Lib.hid hfin
          have HZ := Lib.hid hsz
          clear hfin hsz
          cases d
          all_goals
            go_wp2_with fail
            go_roundw
            case rel => exact ⟨_, k + 1, by omega, rfl, by go_num, HF.out, HZ.out, hB⟩
            case measure => simp [intOf]; omega
        · have hfin : (b ++ ⟨(arrS d).toArray⟩ ++ X).data.toList = refS d (l.take (k + 1)) := by
            rw [HN.out, HA.out, prt_str.1 HPE.out]; simp [HBL.out]
          have hsz : (b ++ ⟨(arrS d).toArray⟩ ++ X).size ≤ 2000 := by
            have hz := HJL.out
            rw [← b_size, hfin]
            rw [List.length_take] at hz
            omega
          have HF := Lib.hid hfin
          have HZ := Lib.hid hsz
          clear hfin hsz
          cases d
          all_goals
            go_wp2_with fail
            go_roundw
            case rel => exact ⟨_, k + 1, by omega, rfl, by go_num, HF.out, HZ.out, hB⟩
            case measure => simp [intOf]; omega
    · obtain rfl : k = l.length := by omega
      have HE : Hid (b = Q) := Lib.hid (ba_eq (by rw [← hq.out, HBL.out, take_all]))
      go_wp2
      go_ret
      exact ⟨ret_str HE.out, hB⟩
set_option maxHeartbeats 2000000 in
theorem rafter_of (l : List Pr) (v : Value) (Q : ByteArray) (w : World) (h : Hid (Prs w v l)) (hl : l.length ≤ 40) (ho : Hid (attOk l)) (hq : Hid (aft prL l = Q.data.toList)) :
    Calls Tryz.prog 41 #[v] w fun e w' => e = .returned (.string Q) ∧ Below w.heap.size w w' := by
  obtain ⟨ao, cap, rfl, -, -, -⟩ := id h.out
  have hr := hq.out
  unfold aft at hr
  rcases Nat.eq_zero_or_pos l.length with h0 | h0
  · obtain rfl : l = [] := List.length_eq_zero_iff.1 h0
    have HE : Hid ((⟨#[]⟩ : ByteArray) = Q) := Lib.hid (ba_eq (by rw [← hr]; rfl))
    clear h hl ho hq h0 hr
    go_enter Tryz.func41, Tryz.ntmps41
    go_wp2
    go_ret
    exact ⟨ret_str HE.out, Below.refl _ _⟩
  · rw [if_neg (by cases l <;> simp at h0 ⊢)] at hr
    obtain ⟨L, hL⟩ : ∃ L, bb (attS prL l) = L := ⟨_, rfl⟩
    have HL : Hid (attS prL l = L.data.toList) := Lib.hid (by rw [← hL])
    have hls : L.size ≤ 4000 := by rw [← b_size, ← HL.out]; have := attS_len ho.out; omega
    have HE : Hid ((⟨#[32]⟩ : ByteArray) ++ L = Q) := Lib.hid (ba_eq (by rw [← hr, ba_add, HL.out]; rfl))
    have b0 : ((l.length : Int) == 0) = false := by rw [beq_eq_false_iff_ne]; omega
    clear hL hq h0 hr
    go_enter Tryz.func41, Tryz.ntmps41
    go_wp2_with (go_at_call 28; refine (rlist_of l _ L _ h hl ho HL).mono ?_; rintro e w1 ⟨rfl, hb1⟩)
    go_ret
    exact ⟨ret_str HE.out, hb1⟩
end Go.Proofs.YtgccheiemnpaoaaGreatDoor.prt
namespace Go.Proofs.YtgccheiemnpaoaaGreatDoor.prt
open Go.RowKit Go.Sort lex tre

/-- The lines of statements, wherever they lie. -/
def RStOk (l : List St) : Prop := ∀ (w0 w : World) (v : Value) (d : Bool) (m : Nat) (ah Q : ByteArray), Hid (Below w0.heap.size w0 w) → Hid (Sts w0 v l) → Hid (vL l) → Hid (okL l) → Hid (ah.data.toList = List.replicate m 32) → Hid (stL prL d m l = Q.data.toList) → Q.size ≤ 8000000 →
  Calls Tryz.prog 19 #[v, .bool d, .string ah] w fun e w' => e = .returned (.string Q) ∧ Below w.heap.size w w'
def RSt (s : St) : Prop := ∀ (w0 w : World) (rv av bv : Value) (d : Bool) (m : Nat) (ah Q : ByteArray), Hid (Below w0.heap.size w0 w) → Hid (fvOk w0 ⟨s, 0, rv, av, bv⟩) → Hid (vS s) → Hid ((s.refs.length ≤ 40 ∧ s.attrs.length ≤ 40) ∧ okL s.body) → Hid (ah.data.toList = List.replicate m 32) → Hid (stS prL d m s = Q.data.toList) → Q.size ≤ 8000000 →
  Calls Tryz.prog 31 #[stV s rv av bv, .bool d, .string ah] w fun e w' => e = .returned (.string Q) ∧ Below w.heap.size w w'
theorem rep_app (m : Nat) {ah : ByteArray} (h : ah.data.toList = List.replicate m 32) : (ah ++ ⟨#[32, 32, 32, 32]⟩).data.toList = List.replicate (m + 4) 32 := by
  rw [ba_add, h]; show List.replicate m 32 ++ List.replicate 4 32 = _; exact List.replicate_append_replicate
theorem stL_app {pr : List UInt8 → Int × Int} (d : Bool) (m : Nat) (a b : List St) : stL pr d m (a ++ b) = stL pr d m a ++ stL pr d m b := by
  induction a with
  | nil => rfl
  | cons s t ih => rw [List.cons_append]; simp only [stL, ih, List.append_assoc]
theorem stL_take {pr : List UInt8 → Int × Int} (d : Bool) (m : Nat) {l : List St} {k : Nat} (h : k < l.length) : stL pr d m (l.take (k + 1)) = stL pr d m (l.take k) ++ stS pr d m l[k] := by
  rw [List.take_add_one, List.getElem?_eq_getElem h, stL_app]
  show _ ++ (stS pr d m l[k] ++ []) = _
  rw [List.append_nil]
theorem stL_le {pr : List UInt8 → Int × Int} (d : Bool) (m : Nat) (l : List St) (k : Nat) : (stL pr d m (l.take k)).length ≤ (stL pr d m l).length := by
  have h := stL_app (pr := pr) d m (l.take k) (l.drop k)
  rw [List.take_append_drop] at h
  rw [h, List.length_append]; omega
theorem vL_at {l : List St} (h : vL l) {k : Nat} (hk : k < l.length) : vS l[k] := by
  obtain ⟨lv, h⟩ := h
  refine ⟨lv, fun x hx => h x ?_⟩
  have : l = l.take k ++ (l[k] :: l.drop (k + 1)) := by rw [← List.drop_eq_getElem_cons hk, List.take_append_drop]
  rw [this, preL_app, preL_cons]
  exact List.mem_append_right _ (List.mem_append_left _ hx)
theorem okL_at {l : List St} (h : okL l) {k : Nat} (hk : k < l.length) : (l[k].refs.length ≤ 40 ∧ l[k].attrs.length ≤ 40) ∧ okL l[k].body := by
  have e : l = l.take k ++ (l[k] :: l.drop (k + 1)) := by rw [← List.drop_eq_getElem_cons hk, List.take_append_drop]
  have h2 : okL (l[k] :: l.drop (k + 1)) := fun x hx => h x (by rw [e, preL_app]; exact List.mem_append_right _ hx)
  exact ⟨(okL_cons.1 h2).1, (okL_cons.1 h2).2.1⟩
theorem len_of {Q : ByteArray} {l : List UInt8} (h : l = Q.data.toList) : Q.size = l.length := by rw [h, b_size]
theorem prs_in {w : World} {v : Value} {x : List UInt8} (h : Prs w v [([], x)]) : ∃ A cap, v = .slice (some A) 1 cap ∧ prAt w A 0 ([], x) := by
  obtain ⟨ao, cap, rfl, _, _, hA⟩ := h
  obtain ⟨A, rfl, h2⟩ := hA (by simp)
  exact ⟨A, cap, rfl, h2 0 (by simp)⟩
set_option maxRecDepth 100000 in
set_option maxHeartbeats 8000000 in
theorem rst_step (s : St) (ih : RStOk s.body) : RSt s := by
  intro w0 w rv av bv d m ah Q hB0 hfv hv hok hah hq hQ
  have hmx : Tryz.prog.follows .mixedOrders = true := by kernel_rfl
  obtain ⟨hnm, hrv, hav, hbv⟩ : s.name.length ≤ maxLen ∧ Prs w0 rv s.refs ∧ Prs w0 av s.attrs ∧ Sts w0 bv s.body := hfv.out
  have hform := hv.out.form
  have hatt := hv.out.att
  have hvals := hv.out.vals
  have hbody := hv.out.body
  have hoks := hok.out
  have hq0 := hq.out
  clear hfv hv hok hq
  obtain ⟨ro, rn, rc, rfl⟩ : ∃ a n c, rv = .slice a n c := by obtain ⟨a, c, rfl, _⟩ := hrv; exact ⟨_, _, _, rfl⟩
  obtain ⟨so, sn, sc, rfl⟩ : ∃ a n c, av = .slice a n c := by obtain ⟨a, c, rfl, _⟩ := hav; exact ⟨_, _, _, rfl⟩
  obtain ⟨bo, bn, bc, rfl⟩ : ∃ a n c, bv = .slice a n c := by obtain ⟨a, c, rfl, _⟩ := hbv; exact ⟨_, _, _, rfl⟩
  cases hform with
  | node n a hn hk =>
    simp only [St.kind, St.name, St.refs, St.attrs, St.body] at hnm hrv hav hbv hatt hoks
    have ha := hatt (by decide)
    have s1 := nm_le hn
    obtain ⟨X, hX⟩ : ∃ X, bb n = X := ⟨_, rfl⟩
    obtain ⟨A, hA⟩ : ∃ A, bb (aft prL a) = A := ⟨_, rfl⟩
    have HA : Hid (aft prL a = A.data.toList) := Lib.hid (by rw [← hA])
    have hX1 : X.data.toList = n := by rw [← hX]
    have hXs : X.size ≤ 16 := by rw [← b_size, hX1]; exact s1
    have hAs : A.size ≤ 4000 := by rw [← b_size, ← HA.out]; have := aft_len ha; omega
    have hqq : List.replicate m 32 ++ (n ++ (aft prL a ++ [59, 10])) = Q.data.toList := by rw [← hq0]; simp [stS]
    have HE : Hid (ah ++ X ++ A ++ ⟨#[59, 10]⟩ = Q) := Lib.hid (ba_eq (by rw [← hqq]; simp [hah.out, hX1, HA.out]))
    have has : ah.size ≤ 8000000 := by have := len_of hqq; rw [List.length_append, ← hah.out, b_size] at this; omega
    have HPA := Lib.hid (hav.keep hB0.out)
    have HO := Lib.hid ha
    have hal := hoks.1.2
    clear hq0 hqq hA ha hatt hvals hnm hrv hav hbv hoks hbody ih hn hk s1 hX1 hah hB0 hQ
    have hB1 := al1 w (.cells #[.int .i64 1, .string X, (.slice ro rn rc), (.slice so sn sc), (.slice bo bn bc)] 44)
    obtain ⟨c0, c1, c2, c3, c4⟩ := at5_new w 1 X (.slice ro rn rc) (.slice so sn sc) (.slice bo bn bc) 44
    show Calls Tryz.prog 31 #[.agg #[.int .i64 1, .string (bb n), (.slice ro rn rc), (.slice so sn sc), (.slice bo bn bc)], .bool d, .string ah] w _
    rw [hX]
    go_enter Tryz.func31, Tryz.ntmps31
    go_wp2_with fail
    generalize w.alloc (.cells #[.int .i64 1, .string X, (.slice ro rn rc), (.slice so sn sc), (.slice bo bn bc)] 44) = w1 at *
    have t0 := fun d os => cell_regrown c0 d os
    have t1 := fun d os => cell_regrown c1 d os
    have t3 := fun d os => cell_regrown c3 d os
    have hp1 := fun d os => (HPA.out.keep hB1).keep (below_regrown w1 d os)
    have cA := fun d os => Calls.regrown_of (w := w1) (d := d) (os := os) (rafter_of a _ A (grow (redrawn w1 d) os) (Lib.hid (hp1 d os)) hal HO HA)
    clear c0 c1 c2 c3 c4 hp1 HPA
    refine wp_region_quiet_below hmx (by kernel_rfl) ?_
    repeat (go_big_quiet_step (with_reducible exact cA _ _))
    refine wpQuiet_nil ?_
    intro _ hw'
    obtain ⟨⟨dq, osq⟩, hw''⟩ := hw'
    subst hw''
    go_wp2
    go_ret
    exact ⟨ret_str HE.out, below_keep (below_regrown w1 dq osq) hB1⟩
  | edge r r2 t a hr hk =>
    simp only [St.kind, St.name, St.refs, St.attrs, St.body] at hnm hrv hav hbv hatt hoks
    have ha := hatt (by decide)
    obtain ⟨X, hX⟩ : ∃ X, bb [] = X := ⟨_, rfl⟩
    obtain ⟨l, hl⟩ : ∃ l, r :: r2 :: t = l := ⟨_, rfl⟩
    rw [hl] at hr hrv hoks hq0
    have hro : refOk l := hr
    obtain ⟨A, hA⟩ : ∃ A, bb (aft prL a) = A := ⟨_, rfl⟩
    obtain ⟨R, hR⟩ : ∃ R, bb (refS d l) = R := ⟨_, rfl⟩
    have HA : Hid (aft prL a = A.data.toList) := Lib.hid (by rw [← hA])
    have HR : Hid (refS d l = R.data.toList) := Lib.hid (by rw [← hR])
    have hAs : A.size ≤ 4000 := by rw [← b_size, ← HA.out]; have := aft_len ha; omega
    have hRs : R.size ≤ 2000 := by rw [← b_size, ← HR.out]; have := refS_len d hro; omega
    have hqq : List.replicate m 32 ++ (refS d l ++ (aft prL a ++ [59, 10])) = Q.data.toList := by rw [← hq0]; simp [stS]
    have HE : Hid (ah ++ R ++ A ++ ⟨#[59, 10]⟩ = Q) := Lib.hid (ba_eq (by rw [← hqq]; simp [hah.out, HR.out, HA.out]))
    have has : ah.size ≤ 8000000 := by have := len_of hqq; rw [List.length_append, ← hah.out, b_size] at this; omega
    have HPA := Lib.hid (hav.keep hB0.out)
    have HPR := Lib.hid (hrv.keep hB0.out)
    have HO := Lib.hid ha
    have HO2 := Lib.hid hro
    have hal := hoks.1.2
    have hrl := hoks.1.1
    clear hq0 hqq hA hR ha hro hatt hvals hnm hrv hav hbv hoks hbody ih hr hk hl hah hB0 hQ
    have hB1 := al1 w (.cells #[.int .i64 2, .string X, (.slice ro rn rc), (.slice so sn sc), (.slice bo bn bc)] 44)
    obtain ⟨c0, c1, c2, c3, c4⟩ := at5_new w 2 X (.slice ro rn rc) (.slice so sn sc) (.slice bo bn bc) 44
    show Calls Tryz.prog 31 #[.agg #[.int .i64 2, .string (bb []), (.slice ro rn rc), (.slice so sn sc), (.slice bo bn bc)], .bool d, .string ah] w _
    rw [hX]
    go_enter Tryz.func31, Tryz.ntmps31
    go_wp2_with fail
    generalize w.alloc (.cells #[.int .i64 2, .string X, (.slice ro rn rc), (.slice so sn sc), (.slice bo bn bc)] 44) = w1 at *
    have t0 := fun d os => cell_regrown c0 d os
    have t2 := fun d os => cell_regrown c2 d os
    have t3 := fun d os => cell_regrown c3 d os
    have hp1 := fun d os => (HPA.out.keep hB1).keep (below_regrown w1 d os)
    have hp2 := fun d os => (HPR.out.keep hB1).keep (below_regrown w1 d os)
    have cA := fun d os => Calls.regrown_of (w := w1) (d := d) (os := os) (rafter_of a _ A (grow (redrawn w1 d) os) (Lib.hid (hp1 d os)) hal HO HA)
    have cR := fun d1 os => Calls.regrown_of (w := w1) (d := d1) (os := os) (rrefs_of l d _ R (grow (redrawn w1 d1) os) (Lib.hid (hp2 d1 os)) hrl HO2 HR)
    clear c0 c1 c2 c3 c4 hp1 hp2 HPA HPR
    refine wp_region_quiet_below hmx (by kernel_rfl) ?_
    repeat (go_big_quiet_step (first | with_reducible exact cA _ _ | with_reducible exact cR _ _))
    refine wpQuiet_nil ?_
    intro _ hw'
    obtain ⟨⟨dq, osq⟩, hw''⟩ := hw'
    subst hw''
    go_wp2
    go_ret
    exact ⟨ret_str HE.out, below_keep (below_regrown w1 dq osq) hB1⟩
  | dflt n a hn hk =>
    simp only [St.kind, St.name, St.refs, St.attrs, St.body] at hnm hrv hav hbv hatt hoks
    have ha := hatt (by decide)
    have s1 : n.length = 4 := by rcases hn with rfl | rfl <;> rfl
    obtain ⟨X, hX⟩ : ∃ X, bb n = X := ⟨_, rfl⟩
    have hX1 : X.data.toList = n := by rw [← hX]
    have hXs : X.size ≤ 16 := by rw [← b_size, hX1]; omega
    have hqq : List.replicate m 32 ++ (n ++ 32 :: ((if a.isEmpty then [91, 93] else attS prL a) ++ [59, 10])) = Q.data.toList := by rw [← hq0]; simp [stS]
    have has : ah.size ≤ 8000000 := by have := len_of hqq; rw [List.length_append, ← hah.out, b_size] at this; omega
    obtain rfl : sn = a.length := by obtain ⟨_, _, e, _⟩ := hav; cases e; rfl
    have HPA := Lib.hid (hav.keep hB0.out)
    have HO := Lib.hid ha
    have hal := hoks.1.2
    rcases Nat.eq_zero_or_pos a.length with h0 | h0
    · have HE : Hid (ah ++ X ++ ⟨#[32, 91, 93, 59, 10]⟩ = Q) := Lib.hid (ba_eq (by
        rw [← hqq]
        have : a = [] := List.length_eq_zero_iff.1 h0
        subst this
        simp [hah.out, hX1]))
      have b0 : ((a.length : Int) == 0) = true := by rw [beq_iff_eq]; omega
      clear hq0 hqq ha hatt hvals hnm hrv hav hbv hoks hbody ih hn hk s1 hX1 hah hB0 hQ HPA HO hal h0
      show Calls Tryz.prog 31 #[.agg #[.int .i64 3, .string (bb n), .slice ro rn rc, .slice so a.length sc, .slice bo bn bc], .bool d, .string ah] w _
      rw [hX]
      go_enter Tryz.func31, Tryz.ntmps31
      go_wp2
      go_ret
      exact ⟨ret_str HE.out, al1 ..⟩
    obtain ⟨A, hA⟩ : ∃ A, bb (attS prL a) = A := ⟨_, rfl⟩
    have HA : Hid (attS prL a = A.data.toList) := Lib.hid (by rw [← hA])
    have hAs : A.size ≤ 4000 := by rw [← b_size, ← HA.out]; have := attS_len ha; omega
    have HE : Hid (ah ++ X ++ ⟨#[32]⟩ ++ A ++ ⟨#[59, 10]⟩ = Q) := Lib.hid (ba_eq (by
      rw [← hqq, if_neg (by cases a <;> simp at h0 ⊢)]; simp [hah.out, hX1, HA.out]))
    have b0 : ((a.length : Int) == 0) = false := by rw [beq_eq_false_iff_ne]; omega
    clear hq0 hqq hA ha hatt hvals hnm hrv hav hbv hoks hbody ih hn hk s1 hX1 hah hB0 hQ h0
    have hB1 := al1 w (.cells #[.int .i64 3, .string X, (.slice ro rn rc), (.slice so a.length sc), (.slice bo bn bc)] 44)
    obtain ⟨c0, c1, c2, c3, c4⟩ := at5_new w 3 X (.slice ro rn rc) (.slice so a.length sc) (.slice bo bn bc) 44
    show Calls Tryz.prog 31 #[.agg #[.int .i64 3, .string (bb n), (.slice ro rn rc), (.slice so a.length sc), (.slice bo bn bc)], .bool d, .string ah] w _
    rw [hX]
    go_enter Tryz.func31, Tryz.ntmps31
    go_wp2_with fail
    generalize w.alloc (.cells #[.int .i64 3, .string X, (.slice ro rn rc), (.slice so a.length sc), (.slice bo bn bc)] 44) = w1 at *
    have t0 := fun d os => cell_regrown c0 d os
    have t1 := fun d os => cell_regrown c1 d os
    have t3 := fun d os => cell_regrown c3 d os
    have hp1 := fun d os => (HPA.out.keep hB1).keep (below_regrown w1 d os)
    have cA := fun d os => Calls.regrown_of (w := w1) (d := d) (os := os) (rlist_of a _ A (grow (redrawn w1 d) os) (Lib.hid (hp1 d os)) hal HO HA)
    clear c0 c1 c2 c4 hp1 HPA
    refine wp_region_quiet_below hmx (by kernel_rfl) ?_
    repeat (go_big_quiet_step (with_reducible exact cA _ _))
    refine wpQuiet_nil ?_
    intro _ hw'
    obtain ⟨⟨dq, osq⟩, hw''⟩ := hw'
    subst hw''
    go_wp2
    go_ret
    exact ⟨ret_str HE.out, below_keep (below_regrown w1 dq osq) hB1⟩
  | sset n x hn =>
    simp only [St.name, St.refs, St.attrs, St.body] at hnm hrv hav hbv hoks
    have hx := hvals ([], x) (by simp [St.attrs])
    have s1 := nm_le hn
    obtain ⟨X, hX⟩ : ∃ X, bb n = X := ⟨_, rfl⟩
    obtain ⟨Y, hY⟩ : ∃ Y, bb x = Y := ⟨_, rfl⟩
    obtain ⟨A, hA⟩ : ∃ A, bb (valS prL x) = A := ⟨_, rfl⟩
    have hX1 : X.data.toList = n := by rw [← hX]
    have hY1 : Y.data.toList = x := by rw [← hY]
    have HA : Hid (valS prL Y.data.toList = A.data.toList) := Lib.hid (by rw [← hA, hY1])
    have hXs : X.size ≤ 16 := by rw [← b_size, hX1]; exact s1
    have hYs : Y.size ≤ 32 := by rw [← b_size, hY1]; exact hx.1
    have hAs : A.size ≤ 66 := by rw [← b_size, ← HA.out, hY1]; exact val_len hx.1
    have HP : Hid (Y.data.toList.all isPl = true) := Lib.hid (by rw [hY1]; exact hx.2)
    have hqq : List.replicate m 32 ++ (wSet ++ 32 :: (n ++ 32 :: 61 :: 32 :: (valS prL x ++ [59, 10]))) = Q.data.toList := by rw [← hq0]; simp [stS]
    have HE : Hid (ah ++ ⟨#[115, 101, 116, 32]⟩ ++ X ++ ⟨#[32, 61, 32]⟩ ++ A ++ ⟨#[59, 10]⟩ = Q) := Lib.hid (ba_eq (by rw [← hqq]; simp [hah.out, hX1, ← HA.out, hY1, wSet]))
    have has : ah.size ≤ 8000000 := by have := len_of hqq; rw [List.length_append, ← hah.out, b_size] at this; omega
    obtain ⟨C, cap, e, p0, p1, _, _⟩ := prs_in (hav.keep hB0.out)
    cases e
    rw [hY] at p1
    clear hq0 hqq hA hatt hvals hnm hrv hav hbv hoks hbody ih hn s1 hX1 hY hY1 hah hB0 hQ hx p0
    have hB1 := al1 w (.cells #[.int .i64 4, .string X, (.slice ro rn rc), (.slice (some C) 1 sc), (.slice bo bn bc)] 44)
    obtain ⟨c0, c1, c2, c3, c4⟩ := at5_new w 4 X (.slice ro rn rc) (.slice (some C) 1 sc) (.slice bo bn bc) 44
    show Calls Tryz.prog 31 #[.agg #[.int .i64 4, .string (bb n), (.slice ro rn rc), (.slice (some C) 1 sc), (.slice bo bn bc)], .bool d, .string ah] w _
    rw [hX]
    go_enter Tryz.func31, Tryz.ntmps31
    go_wp2_with fail
    generalize w.alloc (.cells #[.int .i64 4, .string X, (.slice ro rn rc), (.slice (some C) 1 sc), (.slice bo bn bc)] 44) = w1 at *
    have t0 := fun d os => cell_regrown c0 d os
    have t1 := fun d os => cell_regrown c1 d os
    have t3 := fun d os => cell_regrown c3 d os
    have p2 : w.cell? ⟨C.block, C.off + 1, none⟩ = some (.string Y) := by simpa [Addr.add] using p1
    have u1 := fun d os => cell_regrown (cell_later' hB1 p2) d os
    have cA := fun d os => Calls.regrown_of (w := w1) (d := d) (os := os) ((rvalue_of Y A (grow (redrawn w1 d) os) hYs HP HA).mono fun _ _ h => ⟨h.1, by rw [← h.2]; exact Below.refl _ _⟩)
    clear c0 c1 c2 c3 c4 p1 p2
    refine wp_region_quiet_below hmx (by kernel_rfl) ?_
    repeat (go_big_quiet_step (with_reducible exact cA _ _))
    refine wpQuiet_nil ?_
    intro _ hw'
    obtain ⟨⟨dq, osq⟩, hw''⟩ := hw'
    subst hw''
    go_wp2
    go_ret
    exact ⟨ret_str HE.out, below_keep (below_regrown w1 dq osq) hB1⟩
  | clus n b hn =>
    simp only [St.name, St.refs, St.attrs, St.body] at hnm hrv hav hbv hoks hbody ih
    have s1 := nm_le hn
    obtain ⟨X, hX⟩ : ∃ X, bb n = X := ⟨_, rfl⟩
    obtain ⟨A, hA⟩ : ∃ A, bb (stL prL d (m + 4) b) = A := ⟨_, rfl⟩
    have HA : Hid (stL prL d (m + 4) b = A.data.toList) := Lib.hid (by rw [← hA])
    have hX1 : X.data.toList = n := by rw [← hX]
    have hXs : X.size ≤ 16 := by rw [← b_size, hX1]; exact s1
    have hqq : List.replicate m 32 ++ (wClu ++ 32 :: (n ++ 32 :: 123 :: 10 :: (stL prL d (m + 4) b ++ (List.replicate m 32 ++ [125, 10])))) = Q.data.toList := by rw [← hq0]; simp [stS]
    have HE : Hid (ah ++ ⟨#[99, 108, 117, 115, 116, 101, 114, 32]⟩ ++ X ++ ⟨#[32, 123, 10]⟩ ++ A ++ ah ++ ⟨#[125, 10]⟩ = Q) := Lib.hid (ba_eq (by rw [← hqq]; simp [hah.out, hX1, HA.out, wClu]))
    have hsz := len_of hqq
    simp only [List.length_append, List.length_cons, List.length_replicate, HA.out, b_size] at hsz
    have hahs : ah.size = m := by rw [← b_size, hah.out, List.length_replicate]
    have has : ah.size ≤ 8000000 := by omega
    have hAs : A.size ≤ 8000000 := by omega
    have HBV := Lib.hid hbv
    have HVL := Lib.hid hbody
    have HOK := Lib.hid hoks.2
    have HAH := Lib.hid (rep_app m hah.out)
    have IH := Lib.hid ih
    clear hq0 hqq hA hatt hvals hnm hrv hav hbv hoks hbody ih hn s1 hX1 hah hQ hsz hahs
    have hB1 := al1 w (.cells #[.int .i64 5, .string X, (.slice ro rn rc), (.slice so sn sc), (.slice bo bn bc)] 44)
    obtain ⟨c0, c1, c2, c3, c4⟩ := at5_new w 5 X (.slice ro rn rc) (.slice so sn sc) (.slice bo bn bc) 44
    show Calls Tryz.prog 31 #[.agg #[.int .i64 5, .string (bb n), (.slice ro rn rc), (.slice so sn sc), (.slice bo bn bc)], .bool d, .string ah] w _
    rw [hX]
    go_enter Tryz.func31, Tryz.ntmps31
    go_wp2_with fail
    generalize w.alloc (.cells #[.int .i64 5, .string X, (.slice ro rn rc), (.slice so sn sc), (.slice bo bn bc)] 44) = w1 at *
    have t0 := fun d os => cell_regrown c0 d os
    have t1 := fun d os => cell_regrown c1 d os
    have t4 := fun d os => cell_regrown c4 d os
    have hp1 := fun d os => Lib.hid (hB0.out.trans ((hB1.trans ((below_regrown w1 d os).mono hB1.size)).mono hB0.out.size))
    have cA := fun d1 os => Calls.regrown_of (w := w1) (d := d1) (os := os) (IH.out w0 (grow (redrawn w1 d1) os) _ d (m + 4) _ A (hp1 d1 os) HBV HVL HOK HAH HA hAs)
    clear c0 c1 c2 c3 c4 hp1
    refine wp_region_quiet_below hmx (by kernel_rfl) ?_
    repeat (go_big_quiet_step (with_reducible exact cA _ _))
    refine wpQuiet_nil ?_
    intro _ hw'
    obtain ⟨⟨dq, osq⟩, hw''⟩ := hw'
    subst hw''
    go_wp2
    go_ret
    exact ⟨ret_str HE.out, below_keep (below_regrown w1 dq osq) hB1⟩
set_option maxRecDepth 100000 in
set_option maxHeartbeats 8000000 in
theorem rstL_step (l : List St) (ih : ∀ s ∈ l, RStOk s.body) : RStOk l := by
  intro w0 w v d m ah Q hB0 hs hv hok hah hq hQ
  obtain ⟨ao, cap, rfl, hc, hm, _⟩ := id hs.out
  have IH := Lib.hid ih
  unfold maxLen at hm
  have hlm : l.length ≤ 9223372036854775807 := by omega
  clear ih hc hm
  go_enter Tryz.func19, Tryz.ntmps19
  go_wp2_with fail
  go_loopw [7, 8] (fun s i wr => ∃ (b : ByteArray) (k : Nat), k ≤ l.length ∧ s = .string b ∧ i = .int .i64 k ∧ b.data.toList = stL prL d m (l.take k) ∧ b.size ≤ 8000000 ∧ Below w.heap.size w wr) (fun _ i _ => l.length - (intOf i).toNat)
  case atStart => exact ⟨_, 0, Nat.zero_le _, rfl, rfl, rfl, by decide, Below.refl _ _⟩
  case round =>
    obtain ⟨b, k, hk, rfl, rfl, hb, hbs, hB⟩ := hrel
    rename World => wr
    have HBL := Lib.hid hb
    clear hb
    by_cases hlt : k < l.length
    · have hBr : Below w0.heap.size w0 wr := hB0.out.trans (hB.mono hB0.out.size)
      obtain ⟨A, rfl, hst0⟩ := hs.out.get hlt
      obtain ⟨c0, c1, hnl, ⟨rv, c2, hrv⟩, ⟨av, c3, hav⟩, bv, c4, hbv⟩ := (stAt_eq _ _ _).1 hst0
      have c0 := cell_later' hBr c0
      have c1 := cell_later' hBr c1
      have c2 := cell_later' hBr c2
      have c3 := cell_later' hBr c3
      have c4 := cell_later' hBr c4
      have HFV : Hid (fvOk w0 ⟨l[k], 0, rv, av, bv⟩) := Lib.hid ⟨hnl, hrv, hav, hbv⟩
      obtain ⟨ro, rn, rc, rfl⟩ : ∃ a n c, rv = .slice a n c := by obtain ⟨a, c, rfl, _⟩ := hrv; exact ⟨_, _, _, rfl⟩
      obtain ⟨so, sn, sc, rfl⟩ : ∃ a n c, av = .slice a n c := by obtain ⟨a, c, rfl, _⟩ := hav; exact ⟨_, _, _, rfl⟩
      obtain ⟨bo, bn, bc, rfl⟩ : ∃ a n c, bv = .slice a n c := by obtain ⟨a, c, rfl, _⟩ := hbv; exact ⟨_, _, _, rfl⟩
      have HT := Lib.hid (stL_take (pr := prL) d m hlt)
      have HLE := Lib.hid (stL_le (pr := prL) d m l (k + 1))
      have HVS := Lib.hid (vL_at hv.out hlt)
      have HOK := Lib.hid (okL_at hok.out hlt)
      have HR := Lib.hid (rst_step l[k] (IH.out l[k] (List.getElem_mem hlt)))
      obtain ⟨x, hx⟩ : ∃ x, l[k] = x := ⟨_, rfl⟩
      rw [hx] at c0 c1 HFV HT HVS HOK HR
      clear hx hst0 hnl hrv hav hbv
      obtain ⟨S, hS⟩ : ∃ S, bb (stS prL d m x) = S := ⟨_, rfl⟩
      have HS : Hid (stS prL d m x = S.data.toList) := Lib.hid (by rw [← hS])
      have hfin : (b ++ S).data.toList = stL prL d m (l.take (k + 1)) := by rw [HT.out, ba_add, HBL.out, HS.out]
      have hsz : (b ++ S).size ≤ 8000000 := by
        have := HLE.out
        rw [← b_size, hfin]
        have h2 := len_of hq.out
        omega
      have hSs : S.size ≤ 8000000 := by rw [ByteArray.size_append] at hsz; omega
      have HF := Lib.hid hfin
      have HZ := Lib.hid hsz
      have HBR := Lib.hid hBr
      obtain ⟨X, hX⟩ : ∃ X, bb x.name = X := ⟨_, rfl⟩
      have z0 : (0 : Int) ≤ (k : Int) := by omega
      have z1 : (k : Int) < (l.length : Int) := by omega
      have HC : Hid (Calls Tryz.prog 31 #[.agg #[.int .i64 x.kind, .string X, .slice ro rn rc, .slice so sn sc, .slice bo bn bc], .bool d, .string ah] wr fun e w' => e = .returned (.string S) ∧ Below wr.heap.size wr w') := Lib.hid (by
        rw [← hX]; exact HR.out w0 wr _ _ _ d m ah S HBR HFV HVS HOK hah HS hSs)
      rw [hX] at c1
      clear hX hS hfin hsz HT HLE HR HFV hBr
      go_wp2_with (go_at_call 31; refine (HC.out).mono ?_; rintro e w2 ⟨rfl, hb2⟩)
      go_roundw
      case rel => exact ⟨_, k + 1, by omega, rfl, by go_num, HF.out, HZ.out, below_keep hb2 hB⟩
      case measure => simp [intOf]; omega
    · obtain rfl : k = l.length := by omega
      have HE : Hid (b = Q) := Lib.hid (ba_eq (by rw [← hq.out, HBL.out, List.take_length]))
      go_wp2
      go_ret
      exact ⟨ret_str HE.out, hB⟩
theorem rstmts_ok (l : List St) : RStOk l := lst_ind rstL_step l
end Go.Proofs.YtgccheiemnpaoaaGreatDoor.prt
namespace Go.Proofs.YtgccheiemnpaoaaGreatDoor.prt
open Go.RowKit Go.Sort lex tre

set_option maxRecDepth 100000 in
set_option maxHeartbeats 8000000 in
theorem rprint_of (T : Tr) (v : Value) (Q : ByteArray) (w : World) (h : Hid (TrV w v T)) (hc : cnt T.body ≤ 600) (ho : Hid (okL T.body)) (hq : Hid (prtT prL T = Q.data.toList)) (hQ : Q.size ≤ 8000000) :
    Calls Tryz.prog 9 #[v] w fun e w' => e = .returned (.string Q) ∧ Below w.heap.size w w' := by
  have hmx : Tryz.prog.follows .mixedOrders = true := by kernel_rfl
  obtain ⟨bv, rfl, hnm, hbv⟩ := h.out
  obtain ⟨bo, bn, bc, rfl⟩ : ∃ a n c, bv = .slice a n c := by obtain ⟨a, c, rfl, _⟩ := hbv; exact ⟨_, _, _, rfl⟩
  obtain ⟨R, hR⟩ : ∃ R, validT T = R := ⟨_, rfl⟩
  have HR := Lib.hid hR
  obtain ⟨X, hX⟩ : ∃ X, bb T.name = X := ⟨_, rfl⟩
  have HX := Lib.hid hX
  obtain ⟨d, hd⟩ : ∃ d, T.dir = d := ⟨_, rfl⟩
  have HD := Lib.hid hd
  rw [hX, hd] at h ⊢
  clear hX hd
  have hB := al1 w (.cells #[.string X, .bool d, .slice bo bn bc] 24)
  obtain ⟨c0, c1, c2⟩ := at3_new w X d (.slice bo bn bc) 24
  have HT := Lib.hid (h.out.keep hB)
  have hr := hq.out
  unfold prtT at hr
  rw [hR] at hr
  have HBV := Lib.hid hbv
  clear hbv hR h hq
  by_cases h0 : R = 0
  · subst h0
    rw [if_pos rfl] at hr
    unfold txtT at hr
    have hval := (valid_iff T).1 HR.out
    have s1 := nm_le hval.1
    have HVL : Hid (vL T.body) := Lib.hid ⟨0, hval.2.2⟩
    obtain ⟨A, hA⟩ : ∃ A, bb (stL prL d 4 T.body) = A := ⟨_, rfl⟩
    have HA : Hid (stL prL d 4 T.body = A.data.toList) := Lib.hid (by rw [← hA])
    have hX1 : X.data.toList = T.name := by rw [← HX.out]
    have hXs : X.size ≤ 16 := by rw [← b_size, hX1]; exact s1
    rw [HD.out] at hr
    have hsz := len_of hr
    simp only [List.length_append, List.length_cons, HA.out, b_size] at hsz
    have hAs : A.size ≤ 8000000 := by omega
    have HE : Hid ((if d then (⟨#[100, 105, 103, 114, 97, 112, 104, 32]⟩ : ByteArray) else ⟨#[103, 114, 97, 112, 104, 32]⟩) ++ X ++ ⟨#[32, 123, 10]⟩ ++ A ++ ⟨#[125, 10]⟩ = Q) := Lib.hid (ba_eq (by
      rw [← hr]; cases d <;> simp [wDir, hX1, HA.out]))
    clear hr hval s1 hA hX1 hsz HX HD hQ hnm
    go_enter Tryz.func9, Tryz.ntmps9
    go_wp2_with fail
    refine (rvalid_of _ T 0 _ HT hc HR).mono ?_
    rintro e w1 ⟨rfl, hb1⟩
    have hB1 := below_keep hb1 hB
    have c0 := cell_keep hb1 c0
    have c1 := cell_keep hb1 c1
    have c2 := cell_keep hb1 c2
    have t0 := fun d os => cell_regrown c0 d os
    have t1 := fun d os => cell_regrown c1 d os
    have t2 := fun d os => cell_regrown c2 d os
    have hp1 := fun d os => Lib.hid (hB1.trans ((below_regrown w1 d os).mono hB1.size))
    have cA := fun d1 os => Calls.regrown_of (w := w1) (d := d1) (os := os) (rstmts_ok T.body w (grow (redrawn w1 d1) os) _ d 4 ⟨#[32, 32, 32, 32]⟩ A (hp1 d1 os) HBV HVL ho (Lib.hid rfl) HA hAs)
    have C1 := Lib.hid c1
    clear c0 c2 hp1 hB hb1 c1
    cases d
    · have c1 := C1.out
      go_wp2_with fail
      refine wp_region_quiet_below hmx (by kernel_rfl) ?_
      repeat (go_big_quiet_step (with_reducible exact cA _ _))
      refine wpQuiet_nil ?_
      intro _ hw'
      obtain ⟨⟨dq, osq⟩, hw''⟩ := hw'
      subst hw''
      go_wp2
      go_ret
      exact ⟨ret_str HE.out, below_keep (below_regrown w1 dq osq) hB1⟩
    · have c1 := C1.out
      go_wp2_with fail
      refine wp_region_quiet_below hmx (by kernel_rfl) ?_
      repeat (go_big_quiet_step (with_reducible exact cA _ _))
      refine wpQuiet_nil ?_
      intro _ hw'
      obtain ⟨⟨dq, osq⟩, hw''⟩ := hw'
      subst hw''
      go_wp2
      go_ret
      exact ⟨ret_str HE.out, below_keep (below_regrown w1 dq osq) hB1⟩
  · rw [if_neg h0] at hr
    have HE : Hid ((⟨#[]⟩ : ByteArray) = Q) := Lib.hid (ba_eq (by rw [← hr]))
    have b0 : (R != 0) = true := by simp [h0]
    clear hr h0
    go_enter Tryz.func9, Tryz.ntmps9
    go_wp2_with (go_at_call 7; refine (rvalid_of _ T R _ HT hc HR).mono ?_; rintro e w1 ⟨rfl, hb1⟩)
    go_ret
    exact ⟨ret_str HE.out, below_keep hb1 hB⟩
/-- A tree of one node with the attributes l. -/
def attTr (l : List Pr) : Tr := ⟨[103], false, [.mk 1 [97] [] l []]⟩
def atsT (l : List Pr) : List UInt8 := if validT (attTr l) = 0 then attS prL l else []
theorem attTr_cnt (l : List Pr) : cnt (attTr l).body ≤ 600 := by
  show cnt [.mk 1 [97] [] l []] ≤ 600
  rw [cnt_cons, cnt_nil]
  show 1 + cnt [] + 0 ≤ 600
  rw [cnt_nil]; decide
theorem attTr_ok {l : List Pr} (h : validT (attTr l) = 0) : attOk l := by
  have hv := ((valid_iff _).1 h).2.2
  have : vL (attTr l).body := ⟨0, hv⟩
  exact (vL.cons this).1.att (by show (1 : Int) ≠ 4; decide)
theorem row_att {w : World} {ao : Option Addr} {n c : Nat} {l : List Pr} {g : Nat} (h : Prs w (.slice ao n c) l) (h5 : at5 w g 1 (bb [97]) (.slice none 0 0) (.slice ao n c) (.slice none 0 0)) :
    TrV w (.agg #[.string (bb [103]), .bool false, .slice (some ⟨g, 0, none⟩) 1 1]) (attTr l) := by
  obtain ⟨c0, c1, c2, c3, c4⟩ := h5
  refine ⟨_, rfl, by show ([103] : List UInt8).length ≤ maxLen; decide, some ⟨g, 0, none⟩, 1, rfl, Nat.le_refl _, by decide, fun _ => ⟨_, rfl, ?_, trivial⟩⟩
  refine (stAt_eq _ _ _).2 ⟨c0, c1, by show ([97] : List UInt8).length ≤ maxLen; decide, ⟨_, c2, Prs.nil _⟩, ⟨_, c3, h⟩, _, c4, Sts.nil _⟩
set_option maxRecDepth 100000 in
set_option maxHeartbeats 8000000 in
theorem rattrs_of (l : List Pr) (v : Value) (Q : ByteArray) (w : World) (h : Hid (Prs w v l)) (hl : l.length ≤ 40) (hq : Hid (atsT l = Q.data.toList)) :
    Calls Tryz.prog 14 #[v] w fun e w' => e = .returned (.string Q) ∧ Below w.heap.size w w' := by
  obtain ⟨ao, n, c, rfl⟩ : ∃ a n c, v = .slice a n c := by obtain ⟨a, c, rfl, _⟩ := h.out; exact ⟨_, _, _, rfl⟩
  obtain ⟨R, hR⟩ : ∃ R, validT (attTr l) = R := ⟨_, rfl⟩
  have HR := Lib.hid hR
  have hB1 := al1 w (.cells #[.int .i64 1, .string ⟨#[97]⟩, .slice none 0 0, .slice ao n c, .slice none 0 0] 44)
  have h5 := at5_new w 1 ⟨#[97]⟩ (.slice none 0 0) (.slice ao n c) (.slice none 0 0) 44
  have hB := hB1.alloc (by simp) (.cells #[.string ⟨#[103]⟩, .bool false, .slice (some ⟨w.heap.size, 0, none⟩) 1 1] 24)
  have HT : Hid (TrV ((w.alloc (.cells #[.int .i64 1, .string ⟨#[97]⟩, .slice none 0 0, .slice ao n c, .slice none 0 0] 44)).alloc (.cells #[.string ⟨#[103]⟩, .bool false, .slice (some ⟨w.heap.size, 0, none⟩) 1 1] 24)) (.agg #[.string ⟨#[103]⟩, .bool false, .slice (some ⟨w.heap.size, 0, none⟩) 1 1]) (attTr l)) :=
    Lib.hid (row_att (h.out.keep hB) (at5_keep h5 (al1 ..)))
  have hr := hq.out
  unfold atsT at hr
  rw [hR] at hr
  have hct := attTr_cnt l
  clear hB1 h5 hq
  by_cases h0 : R = 0
  · subst h0
    rw [if_pos rfl] at hr
    have HO := Lib.hid (attTr_ok hR)
    have HQ := Lib.hid hr
    clear hr hR
    go_enter Tryz.func14, Tryz.ntmps14
    go_wp2_with fail
    refine (rvalid_of _ (attTr l) 0 _ HT hct HR).mono ?_
    rintro e w1 ⟨rfl, hb1⟩
    have HP := Lib.hid (h.out.keep (below_keep hb1 hB))
    go_wp2_with (go_at_call 28; refine (rlist_of l _ Q _ HP hl HO HQ).mono ?_; rintro e w2 ⟨rfl, hb2⟩)
    go_ret
    exact ⟨rfl, below_keep hb2 (below_keep hb1 hB)⟩
  · rw [if_neg h0] at hr
    have HE : Hid ((⟨#[]⟩ : ByteArray) = Q) := Lib.hid (ba_eq (by rw [← hr]))
    have b0 : (R != 0) = true := by simp [h0]
    clear hr h0 hR
    go_enter Tryz.func14, Tryz.ntmps14
    go_wp2_with (go_at_call 7; refine (rvalid_of _ (attTr l) R _ HT hct HR).mono ?_; rintro e w1 ⟨rfl, hb1⟩)
    go_ret
    exact ⟨ret_str HE.out, below_keep hb1 hB⟩
end Go.Proofs.YtgccheiemnpaoaaGreatDoor.prt
