/-
  What setting, attrsKind and attrsError of the landed code of layer 12 answer. Conditions: statements in memory; the library's variable MaxLen holds a number.
  What settings of the landed code of layer 12 returns: the options that statements set, in order. Conditions: statements in memory; an option's statement has an attribute; at most 100000 statements.
  What slices.Index of the library returns over attributes: the place of the first equal one, or -1. Condition: the list lies in memory.
  What mode of the landed code of layer 12 returns: the number of the last attribute that names a mode. Condition: a list's length.
-/
import Derived.Test.YtcdoicgbjoikkaaGreatDoorMpa
import Derived.Test.YtcdoicgbjoikkaaGreatDoorMpb
import Derived.Test.YtcdoicgbjoikkaaGreatDoorMch
import Derived.Test.YtcdoicgbjoikkaaGreatDoorMci
import Derived.Test.YtcdoicgbjoikkaaGreatDoorMcg
namespace Go.Proofs.YtcdoicgbjoikkaaGreatDoor.nor
open Go.RowKit lex tre att

set_option maxRecDepth 100000 in
set_option maxHeartbeats 4000000 in
theorem setting_of (k : Int) (n : ByteArray) (ro bo : Option Addr) (rn rc bn bc : Nat) (av : Value) (a : Pr) (t : List Pr) (w : World) (h : Hid (Prs w av (a :: t))) :
    Calls Tryz.prog 73 #[.agg #[.int .i64 k, .string n, .slice ro rn rc, av, .slice bo bn bc]] w fun e w' => e = .returned (.agg #[.string n, .string (bb a.2)]) ∧ Below w.heap.size w w' := by
  have hmx : Tryz.prog.follows .mixedOrders = true := by kernel_rfl
  obtain ⟨ao, ac, rfl, -, -, hA⟩ := id h.out
  obtain ⟨A, rfl, hat⟩ := hA (by simp)
  have h0 := hat 0 (by simp)
  unfold prAt at h0
  simp only [List.getElem_cons_zero, Nat.zero_mul] at h0
  obtain ⟨-, q1, -⟩ := h0
  obtain ⟨Y, hY⟩ : ∃ Y, bb a.2 = Y := ⟨_, rfl⟩
  obtain ⟨L, hL⟩ : ∃ L, t.length + 1 = L := ⟨_, rfl⟩
  have hLp : (0 : Int) < (L : Int) := by omega
  have hLn : 0 < L := by omega
  have hA0 : A.add 0 = A := by unfold Addr.add; rw [if_pos rfl]
  rw [hA0] at q1
  rw [hY] at q1
  rw [hY]
  simp only [List.length_cons, hL]
  have hB := al2 w (.cells #[.int .i64 k, .string n, .slice ro rn rc, .slice (some A) L ac, .slice bo bn bc] 56) (.cells #[.string ⟨#[]⟩, .string ⟨#[]⟩] 82)
  have hT : tbx ((w.alloc (.cells #[.int .i64 k, .string n, .slice ro rn rc, .slice (some A) L ac, .slice bo bn bc] 56)).alloc (.cells #[.string ⟨#[]⟩, .string ⟨#[]⟩] 82)) w.heap.size k n (.slice ro rn rc) (.slice (some A) L ac) (.slice bo bn bc) := tbx_keep (tbx_new ..) (al1 ..)
  have hS : sbx ((w.alloc (.cells #[.int .i64 k, .string n, .slice ro rn rc, .slice (some A) L ac, .slice bo bn bc] 56)).alloc (.cells #[.string ⟨#[]⟩, .string ⟨#[]⟩] 82)) (w.heap.size + 1) ⟨#[]⟩ ⟨#[]⟩ := by
    have := sbx_new (w.alloc (.cells #[.int .i64 k, .string n, .slice ro rn rc, .slice (some A) L ac, .slice bo bn bc] 56)) ⟨#[]⟩ ⟨#[]⟩ 82
    rwa [World.size_alloc] at this
  have q1' := cell_later' hB q1
  obtain ⟨W2, hW2⟩ : ∃ W2, (w.alloc (.cells #[.int .i64 k, .string n, .slice ro rn rc, .slice (some A) L ac, .slice bo bn bc] 56)).alloc (.cells #[.string ⟨#[]⟩, .string ⟨#[]⟩] 82) = W2 := ⟨_, rfl⟩
  rw [hW2] at hB hT hS q1'
  have HB := Lib.hid hB
  have HT := Lib.hid hT
  have HS := Lib.hid hS
  have HQ := Lib.hid q1'
  have HW2 := Lib.hid hW2
  clear hB hT hS q1' q1 hW2 hat hA hY hL h
  go_enter Tryz.func73, Tryz.ntmps73
  go_wp2_with fail
  rw [HW2.out]
  have hBd := HB.out.drew
  have hTd := tbx_keep HT.out (Below.refl W2.heap.size W2).drew
  have hSd : sbx W2.drew (w.heap.size + 1) ⟨#[]⟩ ⟨#[]⟩ := HS.out
  have hQd := cell_later' (Below.refl W2.heap.size W2).drew HQ.out
  refine wp_region_still_tail 8 (by kernel_rfl) (by kernel_rfl) ?_
  change wpStill _ _ W2.drew (fun a' => wpList _ _ _ _ a' W2.drew) _ _
  generalize W2.drew = wd at *
  obtain ⟨t0, t1, t2, t3, t4⟩ := hTd
  obtain ⟨s0, s1, s2, s3⟩ := hSd
  simp only [List.take_succ_cons, List.take_zero, List.drop_succ_cons, List.drop_zero]
  repeat still_step
  refine wpStill_nil ?_
  go_wp2
  have r0 : (wd.setCell ⟨w.heap.size + 1, 0, none⟩ (.string n)).cell? ⟨w.heap.size + 1, 0, none⟩ = some (.string n) := by go_simp
  have r1 : ((wd.setCell ⟨w.heap.size + 1, 0, none⟩ (.string n)).setCell ⟨w.heap.size + 1, 1, none⟩ (.string Y)).cell? ⟨w.heap.size + 1, 1, none⟩ = some (.string Y) := by go_simp
  exact bodyPost_ret (v := .agg #[.string n, .string Y]) (by simp [results, Tryz.results73, go_sem, r0, r1]) rfl ⟨rfl, (hBd.setCell (by simp) _).setCell (by simp) _⟩

/-- Whose attributes a statement has. -/
def kindC (k : Int) (n : Nm) : Int := if k ≠ 3 then k else if n = wNode then 1 else 2
theorem kindC_4 {k : Int} {n : Nm} (h : k ≠ 4) : kindC k n ≠ 4 := by
  unfold kindC
  split
  · exact h
  · split <;> decide
theorem tbx_box (w : World) (k : Int) (n : ByteArray) (ro ao bo : Option Addr) (rn rc an ac bn bc : Nat) : Below w.heap.size w (w.alloc (.cells #[.int .i64 k, .string n, .slice ro rn rc, .slice ao an ac, .slice bo bn bc] 56)) := al1 _ _
set_option maxRecDepth 100000 in
set_option maxHeartbeats 1000000 in
theorem akind_of (k : Int) (n : ByteArray) (ro ao bo : Option Addr) (rn rc an ac bn bc : Nat) (R : Int) (w : World) (h : Hid (kindC k n.data.toList = R)) :
    Calls Tryz.prog 96 #[.agg #[.int .i64 k, .string n, .slice ro rn rc, .slice ao an ac, .slice bo bn bc]] w fun e w' => e = .returned (.int .i64 R) ∧ Below w.heap.size w w' := by
  have hr := h.out
  have hal := tbx_box w k n ro ao bo rn rc an ac bn bc
  unfold kindC at hr
  clear h
  by_cases h3 : k = 3
  · rw [if_neg (by simp [h3])] at hr
    have b3 : (k != 3) = false := by simp [h3]
    by_cases hn : n.data.toList = wNode
    · rw [if_pos hn] at hr
      have b1 : (n.toList == ([110, 111, 100, 101] : List UInt8)) = true := str_yes hn
      subst hr
      clear hn h3
      go_enter Tryz.func96, Tryz.ntmps96
      go_wp2
      go_ret
      exact ⟨rfl, hal⟩
    · rw [if_neg hn] at hr
      have b1 : (n.toList == ([110, 111, 100, 101] : List UInt8)) = false := str_no hn
      subst hr
      clear hn h3
      go_enter Tryz.func96, Tryz.ntmps96
      go_wp2
      go_ret
      exact ⟨rfl, hal⟩
  · rw [if_pos h3] at hr
    have b3 : (k != 3) = true := by simp [h3]
    subst hr
    clear h3
    go_enter Tryz.func96, Tryz.ntmps96
    go_wp2
    go_ret
    exact ⟨rfl, hal⟩
set_option maxRecDepth 100000 in
set_option maxHeartbeats 1000000 in
/-- The attributes of a statement that sets no option. -/
theorem atterr_n (k : Int) (n : ByteArray) (ro ao bo : Option Addr) (rn rc ac bn bc : Nat) (l : List Pr) (R : Int) (w : World) (hM : Hid (Mx w)) (h : Hid (Prs w (.slice ao l.length ac) l)) (hS : Hid (Small l)) (h4 : k ≠ 4) (hR : Hid (firC (kindC k n.data.toList) l = R)) :
    Calls Tryz.prog 54 #[.agg #[.int .i64 k, .string n, .slice ro rn rc, .slice ao l.length ac, .slice bo bn bc]] w fun e w' => e = .returned (.int .i64 R) ∧ Below w.heap.size w w' := by
  obtain ⟨ao', cap', e', hc1, hc2, -⟩ := id h.out
  cases e'
  unfold maxLen at hc2
  have hlm : l.length ≤ 9223372036854775807 := by omega
  obtain ⟨K, hK⟩ : ∃ K, kindC k n.data.toList = K := ⟨_, rfl⟩
  have k4 : K ≠ 4 := by rw [← hK]; exact kindC_4 h4
  have b4 : (K == 4) = false := by rw [beq_eq_false_iff_ne]; exact k4
  have HK := Lib.hid hK
  have HR : Hid (firC K (l.drop 0) = R) := Lib.hid (by rw [← hK]; exact hR.out)
  clear hc1 hc2 hK hR k4 h4
  have hal := tbx_box w k n ro ao bo rn rc l.length ac bn bc
  have hT := tbx_new w k n ro ao bo rn rc l.length ac bn bc 56
  have h1 := Lib.hid (h.out.keep hal)
  go_enter Tryz.func54, Tryz.ntmps54
  go_wp2_with fail
  generalize w.alloc (.cells #[.int .i64 k, .string n, .slice ro rn rc, .slice ao l.length ac, .slice bo bn bc] 56) = w1 at *
  have HAL := Lib.hid hal
  refine (akind_of k n ro ao bo rn rc l.length ac bn bc K w1 HK).mono ?_
  rintro e w2 ⟨rfl, hb2⟩
  have HB2 := Lib.hid (below_keep hb2 hal)
  have hP := h1.out.keep hb2
  have hM2 := mxh hM HB2.out
  obtain ⟨t0, t1, t2, t3, t4⟩ := tbx_keep hT hb2
  have HP := Lib.hid hP
  clear hT hal h1 hb2 hP
  go_wp2_with fail
  clear t0 t1 t2 t3 t4
  go_loopw [12] (fun iv wr => ∃ i : Nat, iv = .int .i64 i ∧ i ≤ l.length ∧ Below w.heap.size w wr ∧ firC K (l.drop i) = R) (fun iv _ => l.length - (intOf iv).toNat)
  case atStart => exact ⟨0, rfl, Nat.zero_le _, HB2.out, HR.out⟩
  case round =>
    obtain ⟨i, rfl, hi, hbw, hck⟩ := hrel
    rename World => wr
    have HB := Lib.hid hbw
    have HCK := Lib.hid hck
    clear hbw hck HR HB2
    by_cases hlt : i < l.length
    case neg =>
      obtain rfl : i = l.length := by omega
      have HE : Hid (0 = R) := Lib.hid (by have := HCK.out; rw [List.drop_length] at this; exact this)
      go_wp2
      go_ret
      exact ⟨ret_int HE.out, HB.out⟩
    have hst := firC_drop' (k := K) hlt
    rw [HCK.out] at hst
    obtain ⟨A, rfl, c0, c1, -, -⟩ := (h.out.keep HB.out).get hlt
    have hu := hS.out l[i] (List.getElem_mem hlt)
    obtain ⟨u, hue⟩ : ∃ u, l[i] = u := ⟨_, rfl⟩
    rw [hue] at c0 c1 hu hst
    obtain ⟨u1, u2⟩ := u
    simp only at c0 c1 hu hst
    obtain ⟨hu1, hu2⟩ := hu
    obtain ⟨ce, hce⟩ : ∃ n, checkL K (u1, u2) = n := ⟨_, rfl⟩
    have HCE := Lib.hid hce
    rw [hce] at hst
    have HST := Lib.hid hst
    have i0 : (0 : Int) ≤ (i : Int) := by omega
    have i1 : (i : Int) < (l.length : Int) := by omega
    have hal2 := al1 wr (.cells #[.string (bb u1), .string (bb u2)] 82)
    have HB2 := Lib.hid (below_keep hal2 HB.out)
    have hM3 := mxh hM HB2.out
    clear hst hce hue hal2
    go_wp2_with fail
    refine (check10_of K (u1, u2) ce _ hM3 hu1 hu2 HCE).mono ?_
    rintro e w3 ⟨rfl, hb3⟩
    have HB3 := Lib.hid (below_keep hb3 HB2.out)
    clear hb3 HB2 hM3 c0 c1
    by_cases hc0 : ce = 0
    · subst hc0
      have hst := HST.out
      rw [if_neg (by simp)] at hst
      have HN := Lib.hid hst.symm
      clear hst
      go_wp2
      go_roundw
      case rel => exact ⟨i + 1, by go_num, by omega, HB3.out, HN.out⟩
      case measure => simp [intOf]; omega
    · have b0 : (ce != 0) = true := by rw [bne_iff_ne]; exact hc0
      have HE : Hid (ce = R) := Lib.hid (by have := HST.out; rw [if_pos hc0] at this; exact this.symm)
      clear hc0
      go_wp2
      go_ret
      exact ⟨ret_int HE.out, HB3.out⟩
set_option maxRecDepth 100000 in
set_option maxHeartbeats 1000000 in
/-- The attribute of a statement that sets an option. -/
theorem atterr_4 (n : List UInt8) (ro ao bo : Option Addr) (rn rc ac bn bc : Nat) (a : Pr) (R : Int) (w : World) (hM : Hid (Mx w)) (h : Hid (Prs w (.slice ao 1 ac) [a])) (hn : n.length ≤ 1000) (ha : a.2.length ≤ 1000) (hR : Hid (checkL 4 (n, a.2) = R)) :
    Calls Tryz.prog 54 #[.agg #[.int .i64 4, .string (bb n), .slice ro rn rc, .slice ao 1 ac, .slice bo bn bc]] w fun e w' => e = .returned (.int .i64 R) ∧ Below w.heap.size w w' := by
  have HK : Hid (kindC 4 (bb n).data.toList = 4) := Lib.hid rfl
  have hal := tbx_box w 4 (bb n) ro ao bo rn rc 1 ac bn bc
  have hT := tbx_new w 4 (bb n) ro ao bo rn rc 1 ac bn bc 56
  have h1 := Lib.hid (h.out.keep hal)
  go_enter Tryz.func54, Tryz.ntmps54
  go_wp2_with fail
  generalize w.alloc (.cells #[.int .i64 4, .string (bb n), .slice ro rn rc, .slice ao 1 ac, .slice bo bn bc] 56) = w1 at *
  refine (akind_of 4 (bb n) ro ao bo rn rc 1 ac bn bc 4 w1 HK).mono ?_
  rintro e w2 ⟨rfl, hb2⟩
  have HB2 := Lib.hid (below_keep hb2 hal)
  have HP := Lib.hid (h1.out.keep hb2)
  have HT := Lib.hid (tbx_keep hT hb2)
  obtain ⟨t0, t1, t2, t3, t4⟩ := tbx_keep hT hb2
  clear hT hal h1 hb2
  go_wp2_with fail
  clear t0 t1 t2 t3 t4
  go_loopw [12] (fun iv wr => ∃ i : Nat, iv = .int .i64 i ∧ i ≤ 1 ∧ Below w2.heap.size w2 wr ∧ (i = 1 → R = 0)) (fun iv _ => 1 - (intOf iv).toNat)
  case atStart => exact ⟨0, rfl, Nat.zero_le _, Below.refl _ _, fun q => absurd q (by decide)⟩
  case round =>
    obtain ⟨i, rfl, hi, hbw, hz⟩ := hrel
    rename World => wr
    have HB := Lib.hid hbw
    have HZ := Lib.hid hz
    clear hbw hz
    by_cases hlt : i < 1
    case neg =>
      obtain rfl : i = 1 := by omega
      have HE : Hid (0 = R) := Lib.hid (HZ.out rfl).symm
      go_wp2
      go_ret
      exact ⟨ret_int HE.out, below_keep HB.out HB2.out⟩
    obtain rfl : i = 0 := by omega
    have hP := HP.out.keep HB.out
    obtain ⟨t0, t1, t2, t3, t4⟩ := tbx_keep HT.out HB.out
    obtain ⟨A, rfl, c0, c1, -, -⟩ := hP.get (show 0 < [a].length from Nat.zero_lt_one)
    rw [List.getElem_cons_zero] at c0 c1
    have hA0 : A.add (0 * 2) = A := by unfold Addr.add; rw [if_pos (by decide)]
    rw [hA0] at c0 c1
    obtain ⟨a1, a2⟩ := a
    simp only at c0 c1 ha
    have hal2 := al1 wr (.cells #[.string (bb a1), .string (bb a2)] 82)
    have hsb := sbx_new wr (bb a1) (bb a2) 82
    have hP3 := Lib.hid (hP.keep hal2)
    have hT3 := tbx_keep (tbx_keep HT.out HB.out) hal2
    have HB3 := Lib.hid (below_keep hal2 HB.out)
    have hne : w1.heap.size = w1.heap.size := rfl
    clear hal2 hP
    obtain ⟨s0, s1, s2, s3⟩ := hsb
    obtain ⟨u0, u1, u2, u3, u4⟩ := hT3
    have i0 : (0 : Int) ≤ 0 := Int.le_refl _
    have i1 : (0 : Int) < 1 := by decide
    go_wp2_with fail
    generalize wr.alloc (.cells #[.string (bb a1), .string (bb a2)] 82) = w3 at *
    refine (setting_of 4 (bb n) ro bo rn rc bn bc _ (a1, a2) [] w3 hP3).mono ?_
    rintro e w4 ⟨rfl, hb4⟩
    have HB4 := Lib.hid (below_keep hb4 HB3.out)
    have hM4 := mxh hM (below_keep HB4.out HB2.out)
    have v0 := cell_keep hb4 s0
    have v1 := cell_keep hb4 s1
    have v2 := fr_keep hb4 s0 s2
    have v3 := fr_keep hb4 s1 s3
    have hlow := HB.out.size
    clear hb4 s0 s1 s2 s3 u0 u1 u2 u3 u4 t0 t1 t2 t3 t4 c0 c1 hP3
    have hB5 : Below w2.heap.size w2 ((w4.setCell ⟨wr.heap.size, 0, none⟩ (.string (bb n))).setCell ⟨wr.heap.size, 1, none⟩ (.string (bb a2))) := (HB4.out.setCell hlow _).setCell hlow _
    have HB5 := Lib.hid hB5
    have hM5 := mxh hM (below_keep hB5 HB2.out)
    clear hB5
    go_wp2_with fail
    refine (check10_of 4 (n, a2) R _ hM5 hn ha hR).mono ?_
    rintro e w6 ⟨rfl, hb6⟩
    have HB6 := Lib.hid (below_keep hb6 HB5.out)
    clear hb6
    by_cases hc0 : R = 0
    · subst hc0
      go_wp2
      go_roundw
      case rel => exact ⟨1, by go_num, by omega, HB6.out, by simp⟩
      case measure => simp [intOf]
    · have b0 : (R != 0) = true := by rw [bne_iff_ne]; exact hc0
      clear hc0
      go_wp2
      go_ret
      exact ⟨rfl, below_keep HB6.out HB2.out⟩
theorem stE_kind {s : St} (h : okS s) (h4 : s.kind ≠ 4) : stE s.kind s.name s.attrs = firC (kindC s.kind s.name) s.attrs := by
  have h3 := sta_kind3 h
  obtain ⟨⟨lv, h⟩, -⟩ := h
  obtain ⟨hk, -, -⟩ := sta_parts h
  unfold stE kindC
  rw [if_neg h4]
  rcases hk with hk | hk | hk | hk | hk
  · rw [if_neg (by omega), if_pos (by omega), hk]
  · rw [if_pos (Or.inl hk), if_pos (by omega), hk]
  · rw [if_neg (show ¬ s.kind ≠ 3 by omega)]
    rcases h3 hk with hn | hn
    · rw [if_pos hn, if_neg (fun q => q.elim (fun e => by omega) (fun e => by rw [hn] at e; exact absurd e.2 (by decide)))]
    · rw [if_pos (Or.inr ⟨hk, hn⟩), if_neg (by rw [hn]; decide)]
  · exact absurd hk h4
  · have ha : s.attrs = [] := by
      unfold staE at h
      split at h
      · rename_i hne; exact absurd h hne
      rename_i hf
      have hf0 : fldE s = 0 := by simpa using hf
      unfold fldE at hf0
      split at hf0
      · exact absurd hf0 (by decide)
      split at hf0
      · exact absurd hf0 (by decide)
      rename_i q
      exact List.length_eq_zero_iff.1 (Nat.le_zero.1 (Nat.not_lt.1 fun e => q (Or.inr (Or.inr (Or.inl ⟨hk, e⟩)))))
    rw [ha]
    split <;> rfl
theorem okS_one {s : St} (h : okS s) (h4 : s.kind = 4) : ∃ a, s.attrs = [a] := by
  obtain ⟨⟨lv, h⟩, -⟩ := h
  unfold staE at h
  split at h
  · rename_i hne; exact absurd h hne
  rename_i hf
  have hf0 : fldE s = 0 := by simpa using hf
  unfold fldE at hf0
  split at hf0
  · exact absurd hf0 (by decide)
  split at hf0
  · exact absurd hf0 (by decide)
  split at hf0
  · exact absurd hf0 (by decide)
  split at hf0
  · exact absurd hf0 (by decide)
  rename_i q
  have h1 : s.attrs.length = 1 := Decidable.byContradiction fun e => q ⟨h4, Or.inl e⟩
  match h5 : s.attrs, h1 with
  | [a], _ => exact ⟨a, rfl⟩
/-- The first error of a statement's attributes. -/
theorem atterr_of (s : St) (rv av bv : Value) (E : Int) (w : World) (hM : Hid (Mx w)) (hR : Hid (∃ l, Prs w rv l)) (hA : Hid (Prs w av s.attrs)) (hB : Hid (∃ l, Sts w bv l)) (ho : Hid (okS s)) (hE : Hid (stE s.kind s.name s.attrs = E)) :
    Calls Tryz.prog 54 #[.agg #[.int .i64 s.kind, .string (bb s.name), rv, av, bv]] w fun e w' => e = .returned (.int .i64 E) ∧ Below w.heap.size w w' := by
  obtain ⟨rl, ro, rc, rfl, -, -, -⟩ := hR.out
  obtain ⟨bl, bo, bc, rfl, -, -, -⟩ := hB.out
  obtain ⟨ao, ac, rfl, -, -, -⟩ := id hA.out
  have hoo := ho.out
  obtain ⟨lv, hst⟩ := hoo.1
  obtain ⟨q1, q2, q3, q4⟩ := sta_attrs hst
  by_cases h4 : s.kind = 4
  · obtain ⟨a, ha⟩ := okS_one hoo h4
    have e1 : E = checkL 4 (s.name, a.2) := by
      rw [← hE.out]
      unfold stE keyL
      rw [if_pos h4, ha]
      show (if checkL 4 (s.name, a.2) ≠ 0 then checkL 4 (s.name, a.2) else 0) = _
      split
      · rfl
      · rename_i h; exact (by simpa using h : checkL 4 (s.name, a.2) = 0).symm
    have hp := hA.out
    rw [ha] at hp
    rw [h4, ha]
    exact atterr_4 s.name ro ao bo _ rc ac _ bc a E w hM (Lib.hid hp) (Nat.le_trans (nm_len (q4 ⟨by omega, by omega⟩)) (by decide)) (Nat.le_trans (q1 a (by rw [ha]; exact List.mem_cons_self ..)).1 (by decide)) (Lib.hid e1.symm)
  · refine atterr_n s.kind (bb s.name) ro ao bo _ rc ac _ bc s.attrs E w hM hA (Lib.hid fun a ha => ?_) h4 (Lib.hid ((stE_kind hoo h4).symm.trans hE.out))
    obtain ⟨z1, z2⟩ := q1 a ha
    exact ⟨Nat.le_trans (nm_len (z2 h4)) (by decide), Nat.le_trans z1 (by decide)⟩
end Go.Proofs.YtcdoicgbjoikkaaGreatDoor.nor
namespace Go.Proofs.YtcdoicgbjoikkaaGreatDoor.nor
open Go.RowKit lex tre att

/-- The row that settings leaves. -/
def ScOut (w0 : World) (D : List Pr) (e : Ending) (w' : World) : Prop := ∃ v, e = .returned v ∧ att.Arow w' w0.heap.size v D ∧ Below w0.heap.size w0 w'
def ScOk (l : List St) : Prop := ∀ (w : World) (v : Value), Sts w v l → SetHas l → cnt l ≤ 100000 → (∀ r ∈ optL l, r.1.length ≤ maxLen ∧ r.2.length ≤ maxLen) →
  Calls Tryz.prog 32 #[v] w (ScOut w (optL l))
theorem ScOk.use {l : List St} (h : Hid (ScOk l)) (w : World) (v : Value) (hs : Hid (Sts w v l)) (hh : Hid (SetHas l)) (hn : Hid (cnt l ≤ 100000)) (hb : Hid (∀ r ∈ optL l, r.1.length ≤ maxLen ∧ r.2.length ≤ maxLen)) :
    Calls Tryz.prog 32 #[v] w (ScOut w (optL l)) := h.out w v hs.out hh.out hn.out hb.out
theorem optL_sub {l : List St} {k : Nat} (h : k < l.length) : ∀ r ∈ optL l[k].body, r ∈ optL l := fun r hr => by
  have e : l = l.take (k + 1) ++ l.drop (k + 1) := (List.take_append_drop ..).symm
  have h1 : r ∈ optL (l.take (k + 1)) := by rw [optL_take h]; exact List.mem_append_right _ (List.mem_append_right _ hr)
  rw [e]
  unfold optL at h1 ⊢
  rw [preL_app, setL_app]
  exact List.mem_append_left _ h1
set_option maxRecDepth 100000 in
set_option maxHeartbeats 1000000 in
theorem sc_step (l : List St) (ih : ∀ s ∈ l, ScOk s.body) : ScOk l := by
  intro w v hs hh hn hbd
  obtain ⟨vo, vc, rfl, hc1, hm1, -⟩ := id hs
  unfold maxLen at hm1
  have hlm : l.length ≤ 9223372036854775807 := by omega
  have IH := Lib.hid ih
  have HS := Lib.hid hs
  have HH := Lib.hid hh
  have HBD := Lib.hid hbd
  clear hc1 hm1 ih hs hh hbd
  go_enter Tryz.func32, Tryz.ntmps32
  go_wp2_with fail
  go_loopw [3, 8] (fun ov iv wr => ∃ (i : Nat) (D : List Pr), iv = .int .i64 i ∧ i ≤ l.length ∧ optL (l.take i) = D ∧ att.Arow wr w.heap.size ov D ∧ Below w.heap.size w wr) (fun _ iv _ => l.length - (intOf iv).toNat)
  case atStart => exact ⟨0, [], rfl, Nat.zero_le _, by simp [optL, setL, preL_nil], World.ownsRow_nil .., Below.refl _ _⟩
  case round =>
    obtain ⟨i, D, rfl, hi, hD, hrow, hB⟩ := hrel
    rename World => wr
    obtain ⟨oo, oc, rfl, -, -⟩ := own_form hrow
    have HR := Lib.hid hrow
    have HB := Lib.hid hB
    have HD := Lib.hid hD
    have hsz := hB.size
    clear hrow hB hD
    by_cases hlt : i < l.length
    case neg =>
      obtain rfl : i = l.length := by omega
      have HE : Hid (D = optL l) := Lib.hid (by rw [← HD.out, List.take_length])
      go_wp2
      go_ret
      exact ⟨_, rfl, by rw [← HE.out]; exact HR.out, HB.out⟩
    have hget := (HS.out.keep HB.out).get hlt
    have hat := optL_take hlt
    have hct := cnt_take hlt
    have hsa := HH.out.at hlt
    have hih := IH.out l[i] (List.getElem_mem hlt)
    have hol := opt_len (l.take i)
    have hsub := optL_sub hlt
    obtain ⟨s, hs⟩ : ∃ s, l[i] = s := ⟨_, rfl⟩
    rw [hs] at hget hat hct hsa hih hsub
    obtain ⟨A, rfl, hsA⟩ := hget
    rw [stAt_eq] at hsA
    obtain ⟨q0, q1, -, ⟨rv, q2, hrv⟩, ⟨av, q3, hav⟩, ⟨bv, q4, hbv⟩⟩ := hsA
    obtain ⟨ro, rc, rfl, -, -, -⟩ := id hrv
    obtain ⟨aa, ac, rfl, -, -, -⟩ := id hav
    obtain ⟨bo, bc, rfl, -, -, -⟩ := id hbv
    have HBV0 : Hid (Sts w (.slice bo s.body.length bc) s.body) := by
      obtain ⟨A', e', h'⟩ := HS.out.get hlt
      cases e'
      rw [hs, stAt_eq] at h'
      obtain ⟨-, -, -, -, -, bv', q4', hbv'⟩ := h'
      have hq := cell_keep HB.out q4'
      rw [q4] at hq
      cases hq
      exact Lib.hid hbv'
    have hQ : ∀ q, (Value.slice oo D.length oc).ownBlock = some q → q < wr.heap.size := fun q hq => (World.ownsRow.lt HR.out q hq).2
    have hDl : D.length = (optL (l.take i)).length := by rw [HD.out]
    have hct2 : cnt (l.take i) + 1 + cnt s.body ≤ cnt l := by rw [← hct.1]; exact hct.2
    have hob := opt_len s.body
    have hDn : D.length + 1 + (optL s.body).length ≤ 100000 := by omega
    have hcb : cnt s.body ≤ 100000 := by omega
    have HAT : Hid (optL (l.take (i + 1)) = (D ++ (if s.kind = 4 then [keyL s.name s.attrs] else [])) ++ optL s.body) := Lib.hid (by rw [hat, HD.out, List.append_assoc])
    have HIH := Lib.hid hih
    have HSA := Lib.hid hsa
    have HHB := Lib.hid hsa.2
    have HCB := Lib.hid hcb
    have HBB : Hid (∀ r ∈ optL s.body, r.1.length ≤ maxLen ∧ r.2.length ≤ maxLen) := Lib.hid (fun r hr => HBD.out r (hsub r hr))
    have hal := al1 wr (.cells #[.int .i64 s.kind, .string (bb s.name), .slice ro s.refs.length rc, .slice aa s.attrs.length ac, .slice bo s.body.length bc] 56)
    have hT2 := tbx_new wr s.kind (bb s.name) ro aa bo s.refs.length rc s.attrs.length ac s.body.length bc 56
    have HA2 := Lib.hid (hav.keep hal)
    have HV2 := Lib.hid (hbv.keep hal)
    have HR2 : Hid (att.Arow (wr.alloc (.cells #[.int .i64 s.kind, .string (bb s.name), .slice ro s.refs.length rc, .slice aa s.attrs.length ac, .slice bo s.body.length bc] 56)) w.heap.size (.slice oo D.length oc) D) := Lib.hid (Go.Proofs.YtcdoicgbjoikkaaGreatDoor.own_keep HR.out hal)
    have HB2 := Lib.hid (HB.out.alloc hsz (.cells #[.int .i64 s.kind, .string (bb s.name), .slice ro s.refs.length rc, .slice aa s.attrs.length ac, .slice bo s.body.length bc] 56))
    have i0 : (0 : Int) ≤ (i : Int) := by omega
    have i1 : (i : Int) < (l.length : Int) := by omega
    clear hat hct hsa hih hrv hav hbv hs hsub hDl hal hcb hol hob HR HB HD
    by_cases h4 : s.kind = 4
    · have z4 : (s.kind == 4) = true := by rw [beq_iff_eq]; exact h4
      obtain ⟨a, t, ha⟩ := List.exists_cons_of_ne_nil (HSA.out.1 h4)
      have hAT := HAT.out
      rw [if_pos h4] at hAT
      have hky : keyL s.name s.attrs = (s.name, a.2) := by unfold keyL; rw [ha]; rfl
      rw [hky] at hAT
      have HAT2 := Lib.hid hAT
      have HA3 : Hid (Prs (wr.alloc (.cells #[.int .i64 s.kind, .string (bb s.name), .slice ro s.refs.length rc, .slice aa s.attrs.length ac, .slice bo s.body.length bc] 56)) (.slice aa s.attrs.length ac) (a :: t)) := Lib.hid (by rw [← ha]; exact HA2.out)
      have hDl2 : (D ++ [(s.name, a.2)]).length = D.length + 1 := by simp
      have HDL2 := Lib.hid hDl2
      have hsz1 : wr.heap.size < (wr.alloc (.cells #[.int .i64 s.kind, .string (bb s.name), .slice ro s.refs.length rc, .slice aa s.attrs.length ac, .slice bo s.body.length bc] 56)).heap.size := by simp
      obtain ⟨t0, t1, t2, t3, t4⟩ := id hT2
      have HT2 := Lib.hid hT2
      clear ha hAT hky h4 hT2 hDl2
      go_wp2_with fail
      generalize wr.alloc (.cells #[.int .i64 s.kind, .string (bb s.name), .slice ro s.refs.length rc, .slice aa s.attrs.length ac, .slice bo s.body.length bc] 56) = w1 at *
      clear t0 t1 t2 t3 t4 q0 q1 q2 q3 q4
      refine (setting_of s.kind (bb s.name) ro bo s.refs.length rc s.body.length bc (.slice aa s.attrs.length ac) a t w1 HA3).mono ?_
      rintro e w2 ⟨rfl, hb2⟩
      have HB3 : Hid (Below w.heap.size w w2) := Lib.hid (below_keep hb2 HB2.out)
      have HR3 : Hid (w2.ownsRow w.heap.size 82 2 (.slice oo D.length oc) D.length (D.flatMap prC)) := Lib.hid (Go.Proofs.YtcdoicgbjoikkaaGreatDoor.own_keep HR2.out hb2)
      have HT3 := Lib.hid (tbx_keep HT2.out hb2)
      have HV3 := Lib.hid (HV2.out.keep hb2)
      have hsz3 := HB3.out.size
      have hsz2 := hb2.size
      clear hb2 HB2 HR2 HT2 HV2
      go_wp2_with (at_builtin; refine app_pr Tryz.underlying54 info_of_cla rfl (.tmp 15) (.tmp 18) rfl w.heap.size _ D (s.name, a.2) w2.heap.size rfl rfl rfl HR3 (by omega) hsz3 ?_; intro ao3 cap3 w3 hrow3 hgrow3; have d4 := hgrow3.cell HT3.out.2.2.2.2 (fun e => by have := hQ _ e.symm; simp at this); have HB4 := Lib.hid (HB3.out.grown hgrow3 hsz3 (fun q hq => (World.ownsRow.lt HR3.out q hq).1)); have HR4 := Lib.hid hrow3; clear hgrow3 hrow3)
      have hsz4 := HB4.out.size
      refine (ScOk.use HIH w3 (.slice bo s.body.length bc) (Lib.hid (HBV0.out.keep HB4.out)) HHB HCB HBB).mono ?_
      rintro e w4 ⟨v4, rfl, hr4, hb4⟩
      obtain ⟨ao4, cap4, rfl, -, -⟩ := own_form hr4
      have HP4 := Lib.hid (hr4.prs HBB.out)
      have HB5 := Lib.hid (below_keep hb4 HB4.out)
      have HR5 : Hid (w4.ownsRow w.heap.size 82 2 (.slice ao3 (D.length + 1) cap3) (D.length + 1) ((D ++ [(s.name, a.2)]).flatMap prC)) := Lib.hid (by have h := Go.Proofs.YtcdoicgbjoikkaaGreatDoor.own_keep HR4.out hb4; rw [HDL2.out] at h; exact h)
      have hsz5 := HB5.out.size
      clear hr4 hb4 HB4 HR4 d4
      go_wp2_with (at_builtin; refine app_prs rfl (.tmp 20) (.tmp 23) rfl w.heap.size _ (D ++ [(s.name, a.2)]) (optL s.body) ao4 cap4 rfl rfl (Lib.hid (by have := HR5.out; unfold att.Arow; exact (by rw [HDL2.out]; exact this))) HP4 (by rw [HDL2.out]; omega) hsz5 ?_; intro v6 w6 hrow6 hgr6; obtain ⟨ao6, cap6, rfl, _, _⟩ := own_form hrow6)
      have HB6 := HB5.out.grown hgr6 hsz5 (fun q hq => (World.ownsRow.lt HR5.out q hq).1)
      go_roundw
      case rel => exact ⟨i + 1, _, by simp, by omega, HAT2.out, by first | exact hrow6 | (have h := hrow6; have e : (D ++ [(s.name, a.2)] ++ optL s.body).length = D.length + ((optL s.body).length + 1) := (by rw [List.length_append, List.length_append, List.length_singleton]; omega); rw [e] at h; exact h) | (have h := hrow6; simp only [List.length_append, List.length_cons, List.length_nil, Nat.zero_add] at h ⊢; exact h), HB6⟩
      case measure => simp [intOf]; omega
    · have z4 : (s.kind == 4) = false := by rw [beq_eq_false_iff_ne]; exact h4
      have hAT := HAT.out
      rw [if_neg h4, List.append_nil] at hAT
      have HAT2 := Lib.hid hAT
      obtain ⟨t0, t1, t2, t3, t4⟩ := id hT2
      clear hAT h4 hT2
      go_wp2_with fail
      generalize wr.alloc (.cells #[.int .i64 s.kind, .string (bb s.name), .slice ro s.refs.length rc, .slice aa s.attrs.length ac, .slice bo s.body.length bc] 56) = w1 at *
      clear t0 t1 t2 t3 t4 q0 q1 q2 q3 q4
      have hsz1 := HB2.out.size
      refine (ScOk.use HIH w1 (.slice bo s.body.length bc) HV2 HHB HCB HBB).mono ?_
      rintro e w4 ⟨v4, rfl, hr4, hb4⟩
      obtain ⟨ao4, cap4, rfl, -, -⟩ := own_form hr4
      have HP4 := Lib.hid (hr4.prs HBB.out)
      have HB5 := Lib.hid (below_keep hb4 HB2.out)
      have HR5 : Hid (att.Arow w4 w.heap.size (.slice oo D.length oc) D) := Lib.hid (Go.Proofs.YtcdoicgbjoikkaaGreatDoor.own_keep HR2.out hb4)
      have hsz5 := HB5.out.size
      clear hr4 hb4 HB2 HR2
      go_wp2_with (at_builtin; refine app_prs rfl (.tmp 20) (.tmp 23) rfl w.heap.size _ D (optL s.body) ao4 cap4 rfl rfl HR5 HP4 (by omega) hsz5 ?_; intro v6 w6 hrow6 hgr6; obtain ⟨ao6, cap6, rfl, _, _⟩ := own_form hrow6)
      have HB6 := HB5.out.grown hgr6 hsz5 (fun q hq => (World.ownsRow.lt HR5.out q hq).1)
      go_roundw
      case rel => exact ⟨i + 1, _, by simp, by omega, HAT2.out, by have h := hrow6; rw [List.length_append] at h; exact h, HB6⟩
      case measure => simp [intOf]; omega
theorem sc_ok (l : List St) : ScOk l := lst_ind sc_step l
end Go.Proofs.YtcdoicgbjoikkaaGreatDoor.nor
namespace Go.Proofs.YtcdoicgbjoikkaaGreatDoor.nor
open Go.RowKit lex tre att

def idxP : List Pr → Pr → Int → Int
  | [], _, _ => -1
  | a :: t, x, i => if x = a then i else idxP t x (i + 1)
theorem box2_new (w : World) (x : Pr) (t : TypeId) : (w.alloc (.cells #[.string (bb x.1), .string (bb x.2)] t)).cell? ⟨w.heap.size, 0, none⟩ = some (.string (bb x.1)) ∧ (w.alloc (.cells #[.string (bb x.1), .string (bb x.2)] t)).cell? ⟨w.heap.size, 1, none⟩ = some (.string (bb x.2)) := by
  refine ⟨?_, ?_⟩ <;> go_simp
set_option maxRecDepth 100000 in
set_option maxHeartbeats 1000000 in
theorem idx_of (v : Value) (l : List Pr) (x : Pr) (n : Int) (w : World) (h : Hid (Prs w v l)) (hn : Hid (idxP l x 0 = n)) :
    Calls Tryz.prog 77 #[v, .agg #[.string (bb x.1), .string (bb x.2)]] w fun e w' => e = .returned (.int .i64 n) ∧ Below w.heap.size w w' := by
  have hmx : Tryz.prog.follows .mixedOrders = true := by kernel_rfl
  obtain ⟨ao, cap, rfl, hc1, hm1, _⟩ := id h.out
  unfold maxLen at hm1
  have hlm : l.length ≤ 9223372036854775807 := by omega
  have hga := guard_att
  have HP0 := Lib.hid (h.out.keep (al1 w (.cells #[.string (bb x.1), .string (bb x.2)] 82)))
  have hx := box2_new w x 82
  have HB0 := Lib.hid (al1 w (.cells #[.string (bb x.1), .string (bb x.2)] 82))
  clear hc1 hm1 h
  go_enter Tryz.func77, Tryz.ntmps77
  go_wp2_with fail
  generalize w.alloc (.cells #[.string (bb x.1), .string (bb x.2)] 82) = w1 at *
  go_loopw [5, 8] (fun _ iv wr => ∃ i : Nat, iv = .int .i64 i ∧ i ≤ l.length ∧ idxP (l.drop i) x i = n ∧ Below w1.heap.size w1 wr) (fun _ iv _ => l.length - (intOf iv).toNat)
  case atStart => exact ⟨0, rfl, Nat.zero_le _, hn.out, Below.refl _ _⟩
  case round =>
    obtain ⟨i, rfl, hi, hfe, hbl⟩ := hrel
    rename World => wr
    have HBl := Lib.hid hbl
    have c0 := cell_keep hbl hx.1
    have c1 := cell_keep hbl hx.2
    clear hbl
    by_cases hlt : i < l.length
    case neg =>
      obtain rfl : i = l.length := by omega
      rw [List.drop_length] at hfe
      have he : (-1 : Int) = n := hfe
      subst he
      have HBF := Lib.hid (below_keep HBl.out HB0.out)
      clear HBl hx
      go_wp2
      go_ret
      exact ⟨rfl, HBF.out⟩
    obtain ⟨A, rfl, q0, q1, -, -⟩ := (HP0.out.keep HBl.out).get hlt
    rw [List.drop_eq_getElem_cons hlt, idxP] at hfe
    obtain ⟨u, hu⟩ : ∃ u, l[i] = u := ⟨_, rfl⟩
    rw [hu] at q0 q1 hfe
    have i0 : (0 : Int) ≤ (i : Int) := by omega
    have i1 : (i : Int) < (l.length : Int) := by omega
    obtain ⟨dq, hdq⟩ : ∃ b, decide (x = u) = b := ⟨_, rfl⟩
    have heq := eql_att x u dq (Lib.hid hdq)
    have HF : Hid ((if dq = true then (i : Int) else idxP (l.drop (i + 1)) x ((i : Int) + 1)) = n) := Lib.hid (by rw [← hfe, ← hdq]; by_cases e : x = u <;> simp [e])
    clear hu hfe hdq hx
    go_wp2_with fail
    go_quiet (fail)
    have HB3 := Lib.hid (below_keep (drew_n wr nq) HBl.out)
    clear c0 c1 q0 q1
    generalize wr.drewN nq = w3 at HB3 ⊢
    cases dq
    · have hf := HF.out
      rw [if_neg (by simp)] at hf
      have HF3 := Lib.hid hf
      clear hf HF heq
      go_wp2
      go_roundw
      case rel => exact ⟨i + 1, by go_num, by omega, by have h := HF3.out; rw [show ((i : Int) + 1) = ((i + 1 : Nat) : Int) from rfl] at h; exact h, HB3.out⟩
      case measure => simp [intOf]; omega
    · have hf := HF.out
      rw [if_pos rfl] at hf
      subst hf
      have HBF := Lib.hid (below_keep HB3.out HB0.out)
      clear heq HF
      go_wp2
      go_ret
      exact ⟨rfl, HBF.out⟩
end Go.Proofs.YtcdoicgbjoikkaaGreatDoor.nor
namespace Go.Proofs.YtcdoicgbjoikkaaGreatDoor.nor
open Go.RowKit lex tre att
attribute [local go_sem] Oper.semAt_some

def modesP : List Pr := [(wMode, [108, 97, 121, 101, 114, 101, 100]), (wMode, [111, 114, 116, 104, 111, 103, 111, 110, 97, 108]), (wMode, [115, 116, 114, 97, 105, 103, 104, 116]), (wMode, [116, 105, 100, 121]), (wMode, [114, 97, 100, 105, 97, 108])]
theorem idx_mode (a : Pr) : idxP modesP a 0 = if a.1 = wMode then modeL a.2 else -1 := by
  obtain ⟨k, v⟩ := a
  rw [mode_lit]
  unfold modesP
  by_cases h : k = wMode
  · subst h
    simp only [idxP, Prod.mk.injEq, true_and, if_true]
    rfl
  · simp only [idxP, Prod.mk.injEq, h, false_and, if_false]
def mdR : List Pr → Int
  | [] => 0
  | a :: t => if idxP modesP a 0 ≠ -1 then idxP modesP a 0 else mdR t
def mdB (l : List Pr) : Int := mdR l.reverse
theorem mdB_snoc (l : List Pr) (a : Pr) : mdB (l ++ [a]) = if idxP modesP a 0 ≠ -1 then idxP modesP a 0 else mdB l := by
  unfold mdB
  rw [List.reverse_append, List.reverse_singleton, List.singleton_append, mdR]
/-- If all modes in the list are known ones, then it is the mode of the last value. -/
theorem mdB_get : ∀ (r : List Pr), (∀ a ∈ r, a.1 = wMode → 0 ≤ modeL a.2) → mdR r = if modeL (getL r.reverse wMode).1 < 0 then 0 else modeL (getL r.reverse wMode).1
  | [], _ => by simp [mdR, getL, mode_lit]
  | a :: t, h => by
    have ih := mdB_get t (fun b hb => h b (List.mem_cons_of_mem _ hb))
    rw [mdR, idx_mode, List.reverse_cons, getL_snoc]
    by_cases e : a.1 = wMode
    · have h1 := h a List.mem_cons_self e
      rw [if_pos e, if_pos e, if_pos (by omega), if_neg (by simpa using h1)]
    · rw [if_neg e, if_neg e, if_neg (by simp), ih]
theorem mdB_eq (l : List Pr) (h : ∀ a ∈ l, a.1 = wMode → 0 ≤ modeL a.2) : mdB l = if modeL (getL l wMode).1 < 0 then 0 else modeL (getL l wMode).1 := by
  have := mdB_get l.reverse (fun a ha => h a (List.mem_reverse.1 ha))
  rw [List.reverse_reverse] at this
  exact this
def MdI (w1 : World) (m : Nat) (L : List Pr) (n : Int) (pre : List (Nat × Pr)) (W : World) : Prop := mdB (L.take (L.length - pre.length)) = n ∧ Below m w1 W
def MdX (w : World) (g : Nat) (n : Int) (W : World) : Prop := Boxed W g 3 (.int .i64 n) ∧ Below g w W
theorem modes_own (w : World) : Prs (w.alloc (.cells #[.string ⟨#[109, 111, 100, 101]⟩, .string ⟨#[108, 97, 121, 101, 114, 101, 100]⟩, .string ⟨#[109, 111, 100, 101]⟩, .string ⟨#[111, 114, 116, 104, 111, 103, 111, 110, 97, 108]⟩, .string ⟨#[109, 111, 100, 101]⟩, .string ⟨#[115, 116, 114, 97, 105, 103, 104, 116]⟩, .string ⟨#[109, 111, 100, 101]⟩, .string ⟨#[116, 105, 100, 121]⟩, .string ⟨#[109, 111, 100, 101]⟩, .string ⟨#[114, 97, 100, 105, 97, 108]⟩] 82)) (.slice (some ⟨w.heap.size, 0, none⟩) 5 5) modesP := prs_lit w modesP (by decide) (by unfold Bnd; decide) 82
set_option maxRecDepth 100000 in
set_option maxHeartbeats 4000000 in
theorem mode_of (v : Value) (L : List Pr) (n : Int) (w : World) (h : Hid (Prs w v L)) (hL : L.length ≤ 1000) (hn : Hid (mdB L = n)) :
    Calls Tryz.prog 34 #[v] w fun e w' => e = .returned (.int .i64 n) ∧ Below w.heap.size w w' := by
  obtain ⟨ao, cap, rfl, _, _, _⟩ := id h.out
  obtain ⟨g, hg⟩ : ∃ g, w.heap.size = g := ⟨_, rfl⟩
  have HPP : Hid (∀ Y, Below g w Y → Prs Y (.slice ao L.length cap) L) := Lib.hid (fun Y hY => h.out.keep (by rw [hg]; exact hY))
  refine (callsIn_wide (n := 9)).1 ?_
  refine callsIn_of_wp_marks Tryz.func34 rfl trivial ?_ rfl
  simp only [Tryz.ntmps34, List.size_toArray, List.length_cons, List.length_nil, Nat.reduceAdd, Nat.reduceSub, Array.replicate_succ, Array.replicate_zero, List.push_toArray, List.append_toArray, List.nil_append, List.cons_append]
  gi_wp2
  have hO0 := modes_own (w.alloc (.cells #[.int .i64 0] 3))
  obtain ⟨MC, hMC⟩ : ∃ o, Obj.cells #[.string ⟨#[109, 111, 100, 101]⟩, .string ⟨#[108, 97, 121, 101, 114, 101, 100]⟩, .string ⟨#[109, 111, 100, 101]⟩, .string ⟨#[111, 114, 116, 104, 111, 103, 111, 110, 97, 108]⟩, .string ⟨#[109, 111, 100, 101]⟩, .string ⟨#[115, 116, 114, 97, 105, 103, 104, 116]⟩, .string ⟨#[109, 111, 100, 101]⟩, .string ⟨#[116, 105, 100, 121]⟩, .string ⟨#[109, 111, 100, 101]⟩, .string ⟨#[114, 97, 100, 105, 97, 108]⟩] 82 = o := ⟨_, rfl⟩
  rw [hMC] at hO0 ⊢
  have hs0 : (w.alloc (.cells #[.int .i64 0] 3)).heap.size = g + 1 := by simp [hg]
  have hs1 : ((w.alloc (.cells #[.int .i64 0] 3)).alloc MC).heap.size = g + 2 := by simp [hg]
  rw [hs0] at hO0
  have hR0 := ((Boxed.new w 3 (.int .i64 0)).alloc MC).alloc (.cells #[.slice (some ⟨g + 1, 0, none⟩) 5 5] 54)
  have hM0 := Boxed.new ((w.alloc (.cells #[.int .i64 0] 3)).alloc MC) 54 (.slice (some ⟨g + 1, 0, none⟩) 5 5)
  have hO1 := hO0.keep (al1 ((w.alloc (.cells #[.int .i64 0] 3)).alloc MC) (.cells #[.slice (some ⟨g + 1, 0, none⟩) 5 5] 54))
  have hB0 := al3 w (.cells #[.int .i64 0] 3) MC (.cells #[.slice (some ⟨g + 1, 0, none⟩) 5 5] 54)
  have hsz : (((w.alloc (.cells #[.int .i64 0] 3)).alloc MC).alloc (.cells #[.slice (some ⟨g + 1, 0, none⟩) 5 5] 54)).heap.size = g + 3 := by simp [hg]
  rw [hg] at hR0 hB0
  rw [hs1] at hM0
  generalize ((w.alloc (.cells #[.int .i64 0] 3)).alloc MC).alloc (.cells #[.slice (some ⟨g + 1, 0, none⟩) 5 5] 54) = w1 at hR0 hM0 hO1 hB0 hsz ⊢
  clear hO0 hs0 hs1 hMC
  have HO1 := Lib.hid hO1
  clear hO1
  refine ⟨trivial, ?_⟩
  refine (callsIn_wide.2 (bkw_of _ _ _ w1)).mono ?_
  rintro e W0' ⟨rfl, rfl⟩
  have bS := Boxed.new w1 54 (.slice ao L.length cap)
  have hB1 : Below (g + 3) w1 (w1.alloc (.cells #[.slice ao L.length cap] 54)) := by have := al1 w1 (.cells #[.slice ao L.length cap] 54); rwa [hsz] at this
  have hz1 : (w1.alloc (.cells #[.slice ao L.length cap] 54)).heap.size = g + 3 + 1 := by simp [hsz]
  simp only [hsz] at bS ⊢
  generalize w1.alloc (.cells #[.slice ao L.length cap] 54) = W0 at bS hB1 hz1 ⊢
  gi_wp2
  refine range_c rfl (enters_of Tryz.func121 (by kernel_rfl) rfl) (bk_seq (.slice ao L.length cap) L (by omega) (g + 1) (g + 3) (g + 3) W0 (by omega) (fun Y hY => HPP.out Y (hB0.trans ((hB1.trans hY).mono (by omega)))) rfl bS) (fun r e => by cases e) (by omega) (by omega) (fun _ => rfl)
    (MdI w1 (g + 3) L n) (fun _ => MdX w g n) (fun pre X Y row h hg' hr' => ⟨h.1, h.2.grown hg' (by have := h.2.size; omega) (fun q e => by rcases hr' q e with e | e; cases e; omega)⟩) (fun pre X Y row h hg' hr' => ⟨h.1.kept hg' (fun e => by have := hr' _ e.symm; omega), h.2.grown hg' (by have := h.1.lt; omega) (fun q e => by have := hr' q e; omega)⟩)
    ⟨by rw [List.length_nil, Nat.sub_zero, List.take_length]; exact hn.out, hB1⟩
    (fun y a' W => ∃ Bx, W0.heap.size + 2 ≤ Bx ∧ Blk2 W Bx y.2 ∧ a' = { tmps := #[.slice ao L.length cap, undef, .pointer (some ⟨g, 0, none⟩), .pointer (some ⟨g + 1 + 1, 0, none⟩), undef, .pointer (some ⟨Bx, 0, none⟩), undef, .agg #[.string ⟨#[109, 111, 100, 101]⟩, .string ⟨#[108, 97, 121, 101, 114, 101, 100]⟩], .agg #[.string ⟨#[109, 111, 100, 101]⟩, .string ⟨#[111, 114, 116, 104, 111, 103, 111, 110, 97, 108]⟩], .agg #[.string ⟨#[109, 111, 100, 101]⟩, .string ⟨#[115, 116, 114, 97, 105, 103, 104, 116]⟩], .agg #[.string ⟨#[109, 111, 100, 101]⟩, .string ⟨#[116, 105, 100, 121]⟩], .agg #[.string ⟨#[109, 111, 100, 101]⟩, .string ⟨#[114, 97, 100, 105, 97, 108]⟩], .slice (some ⟨g + 1, 0, none⟩) 5 5, .slice ao L.length cap, .func (.func 121) #[] #[.pointer (some ⟨g + 3, 0, none⟩)], .int .i64 y.1, .agg #[.string (bb y.2.1), .string (bb y.2.2)], undef, undef, undef, undef, undef, undef], defers := [] })
    (fun y a' X Y h hg' => by
      obtain ⟨Bx, h1, h2, h3⟩ := h
      exact ⟨Bx, h1, (hg'.block Bx (Array.getElem?_eq_some_iff.1 h2).1 (fun e => by cases e; omega)).trans h2, h3⟩) ?assign ?body ?done ?stop
  case assign =>
    rintro k l pre y W K hI hz hK
    dsimp only [bkV]
    gi_wp2
    exact hK _ _ (Kp3.of (by omega) (by omega) (by omega) (al1 _ _)) ⟨hI.1, hI.2.grown (World.grownBy_alloc W _ none) (by omega) (fun q e => by cases e)⟩ ⟨W.heap.size, by omega, heap_alloc_new W _, rfl⟩
  case body =>
    rintro k l pre y a' W ⟨hi, hB⟩ hz ⟨Bx, hBx, bX, rfl⟩ hpre
    obtain ⟨hlt, rfl⟩ := bk_next hpre
    have e1 : L.length - pre.length = (L.length - 1 - pre.length) + 1 := by omega
    have hjl : L.length - 1 - pre.length < L.length := by omega
    have hn2 : L.length - (pre.length + 1) = L.length - 1 - pre.length := by omega
    rw [e1, List.take_succ_eq_append_getElem hjl, mdB_snoc] at hi
    simp only at bX hi
    obtain ⟨u, hu⟩ : ∃ u, L[L.length - 1 - pre.length] = u := ⟨_, rfl⟩
    simp only [hu] at bX hi ⊢
    have bM : Boxed W (g + 2) 54 (.slice (some ⟨g + 1, 0, none⟩) 5 5) := (hB.block _ (by omega)).trans hM0
    have bR : Boxed W g 3 (.int .i64 0) := (hB.block _ (by omega)).trans hR0
    have HMP : Hid (Prs W (.slice (some ⟨g + 1, 0, none⟩) 5 5) modesP) := Lib.hid (HO1.out.keep (by rw [hsz]; exact hB))
    obtain ⟨o0, o1, _, _⟩ := own2_of bX
    have cM := bM.cell
    obtain ⟨m, hm⟩ : ∃ m, idxP modesP u 0 = m := ⟨_, rfl⟩
    rw [hm] at hi
    have HI := Lib.hid hi
    have HM := Lib.hid hm
    have HB := Lib.hid hB
    clear hu e1 bX hi hm hB
    gi_wp2
    refine ⟨trivial, fun h => (by cases h), ?_⟩
    refine (CallsIn.inRound l (callsIn_wide.2 (idx_of _ modesP u m W HMP HM))).mono ?_
    rintro e w3 ⟨rfl, hb3⟩
    have hq3 := hb3.size
    have bR3 : Boxed w3 g 3 (.int .i64 0) := (hb3.block _ (by omega)).trans bR
    have K3 := Lib.hid (Kp3.of (m := g + 3) (c := g + 1) (B := W0.heap.size) (by omega) (by omega) (by omega) hb3)
    have HB3 := Lib.hid (HB.out.trans K3.out.1)
    clear hb3 bM bR cM o0 o1 HMP
    obtain ⟨bq, hbq⟩ : ∃ b, (m != -1) = b := ⟨_, rfl⟩
    have hi := HI.out
    cases bq
    · have hm1 : m = -1 := by simpa using hbq
      rw [if_neg (by simpa using hm1)] at hi
      have HF : Hid (mdB (L.take (L.length - (pre.length + 1))) = n) := Lib.hid (by rw [hn2]; exact hi)
      clear hi hm1 hn2
      gi_wp2
      exact ⟨K3.out, by rw [List.length_append]; exact HF.out, HB3.out⟩
    · have hm1 : m ≠ -1 := by simpa using hbq
      rw [if_pos hm1] at hi
      subst hi
      have cR := bR3.cell
      have fR := bR3.frozen
      clear hm1 hn2
      gi_wp2
      have k5 := Kp3.t (m := g) (c := g + 1) (B := W0.heap.size) ⟨K3.out.1.mono (by omega), K3.out.2⟩ (Kp3.set (b := g) (o := 0) (v := .int .i64 m) (Nat.le_refl _) (by omega) (by omega) (by omega))
      exact ⟨k5.2.2.1, k5.2.2.2, bR3.set _, (hB0.trans (HB.out.mono (by omega))).trans k5.1⟩
  case done =>
    rintro W ⟨hi, hB⟩ hK
    rw [bk_len, Nat.sub_self] at hi
    have he : (0 : Int) = n := hi
    subst he
    have bR : Boxed W g 3 (.int .i64 0) := (hB.block _ (by omega)).trans hR0
    have hW := hB.size
    have hK1 := (KeepsOthers.setCell W ⟨g, 0, none⟩ (.int .i64 0)).same W0.heap.size _ hK rfl
    have bR2 := ((bR.set (.int .i64 0)).kept (grownBy_putObj' _ W0.heap.size (.deferred none)) (by simp; omega))
    have hB2 := ((((hB0.trans (hB.mono (by omega))).setCell (p := ⟨g, 0, none⟩) (by simp) (.int .i64 0))).grown (grownBy_putObj' _ W0.heap.size (.deferred none)) (by simp; omega) (fun k e => by cases e; omega))
    have cR := bR.cell
    have fR := bR.frozen
    have cR2 := bR2.cell
    have HB2 := Lib.hid hB2
    clear hB2 hB
    gi_wp2
    refine ⟨by simp, .inl ⟨_, _, rfl, run_takeDeferred hK1, ?_⟩⟩
    exact ⟨.int .i64 0, by simp [results, Tryz.results34, go_sem, cR2], rfl, by rw [hg]; exact HB2.out⟩
  case stop =>
    rintro pre W hpre ⟨bR, hB⟩ hK
    have bR2 := bR.kept (grownBy_putObj' _ W0.heap.size (.deferred none)) (by simp; omega)
    have hB2 := hB.grown (grownBy_putObj' _ W0.heap.size (.deferred none)) (by have := bR.lt; omega) (fun k e => by cases e; omega)
    have cR2 := bR2.cell
    have HB2 := Lib.hid hB2
    clear hB2 hB
    gi_wp2
    refine ⟨by simp, .inl ⟨_, _, rfl, run_takeDeferred hK, ?_⟩⟩
    exact ⟨.int .i64 n, by simp [results, Tryz.results34, go_sem, cR2], rfl, by rw [hg]; exact HB2.out⟩
end Go.Proofs.YtcdoicgbjoikkaaGreatDoor.nor
