/-
  What Chosen and Neighbors of the reference of layer 14 return. Conditions: a list or a digraph in memory.
-/
import Derived.Test.YtkmamdlhpbobhaaDigRef2
namespace Go.Proofs.Ytkmamdlhpbobhaa.dig
open Go.RowKit

theorem ins_take {w : World} {A : Addr} {cap : Nat} {l : List Int} (h : Ins w (.slice (some A) l.length cap) l) {i : Nat} (hi : i ≤ l.length) : Ins w (.slice (some A) i cap) (l.take i) := by
  obtain ⟨ao, c, e, h1, h2, h3⟩ := h
  cases e
  have hl : (l.take i).length = i := by rw [List.length_take]; omega
  refine ⟨some A, cap, by rw [hl], by rw [hl]; omega, h2, fun hn => ⟨A, rfl, fun j hj => ?_⟩⟩
  rw [hl] at hj
  obtain ⟨B, e, h4⟩ := h3 (by omega)
  cases e
  rw [List.getElem_take]
  exact h4 j (by omega)
theorem nbrK_len (l : List Ar) (v : Int) : ∀ k, (nbrK l v k).length ≤ k
  | 0 => by simp [nbrK_zero]
  | k + 1 => by
    have := nbrK_len l v k
    rw [nbrK_succ, List.length_append]
    split <;> simp <;> omega
theorem any_take {α : Type} (p : α → Bool) {l : List α} {k : Nat} (h : k < l.length) : (l.take (k + 1)).any p = ((l.take k).any p || p l[k]) := by
  rw [List.take_succ_eq_append_getElem h, List.any_append, List.any_cons, List.any_nil, Bool.or_false]
set_option maxRecDepth 100000 in
set_option maxHeartbeats 4000000 in
theorem rchosen_of (v : Value) (l : List Int) (n R : Int) (w : World) (h : Hid (Ins w v l)) (hr : Hid (chosen [] l n = R)) :
    Calls Try.prog 36 #[v, .int .i64 n] w fun e w' => e = .returned (.int .i64 R) ∧ Below w.heap.size w w' := by
  have hmx : Try.prog.follows .mixedOrders = true := by kernel_rfl
  obtain ⟨ao, cap, rfl, hc, hm, -⟩ := id h.out
  unfold maxLen at hm
  have hlm : l.length ≤ 9223372036854775807 := by omega
  have hcm : l.length ≤ cap := hc
  have HR : Hid (chosen (l.take 0) (l.drop 0) n = R) := Lib.hid (by rw [List.drop_zero, List.take_zero]; exact hr.out)
  clear hc hm hr
  go_enter Try.func36, Try.ntmps36
  go_wp2_with fail
  go_loopw [5] (fun iv wr => ∃ k : Nat, iv = .int .i64 k ∧ k ≤ l.length ∧ chosen (l.take k) (l.drop k) n = R ∧ Below w.heap.size w wr) (fun iv _ => l.length - (intOf iv).toNat)
  case atStart => exact ⟨0, rfl, Nat.zero_le _, HR.out, Below.refl _ _⟩
  case round =>
    obtain ⟨k, rfl, hk, hch, hb⟩ := hrel
    rename World => wr
    have HB := Lib.hid hb
    have HC := Lib.hid hch
    clear hb hch HR
    by_cases hlt : k < l.length
    case neg =>
      have hst := HC.out
      rw [List.drop_of_length_le (by omega), chosen] at hst
      subst hst
      go_wp2
      go_ret
      exact ⟨rfl, HB.out⟩
    have hst := HC.out
    rw [List.drop_eq_getElem_cons hlt, chosen] at hst
    have hin := h.out.keep HB.out
    have hpt := List.take_succ_eq_append_getElem hlt
    obtain ⟨A, rfl, q0⟩ := hin.at hlt
    obtain ⟨x, hx⟩ : ∃ x, l[k] = x := ⟨_, rfl⟩
    rw [hx] at hst q0 hpt
    have i0 : (0 : Int) ≤ (k : Int) := by omega
    have i1 : (k : Int) < (l.length : Int) := by omega
    have i2 : (k : Int) ≤ (cap : Int) := by omega
    have HIT := Lib.hid (ins_take hin hk)
    have HPT := Lib.hid hpt
    have HST := Lib.hid hst
    clear hin hpt hst hx
    by_cases r1 : x < 0
    case pos =>
      have hst := HST.out
      rw [if_pos (Or.inl r1)] at hst
      have e1 : decide (x < 0) = true := decide_eq_true r1
      subst hst
      clear r1
      go_wp2
      go_ret
      exact ⟨rfl, HB.out⟩
    have e1 : decide (x < 0) = false := decide_eq_false r1
    by_cases r2 : n ≤ x
    case pos =>
      have hst := HST.out
      rw [if_pos (Or.inr r2)] at hst
      have e2 : decide (n ≤ x) = true := decide_eq_true r2
      subst hst
      clear r1 r2
      go_wp2
      go_ret
      exact ⟨rfl, HB.out⟩
    have e2 : decide (n ≤ x) = false := decide_eq_false r2
    obtain ⟨b, hbc⟩ : ∃ b, (l.take k).contains x = b := ⟨_, rfl⟩
    have hst := HST.out
    rw [if_neg (by omega), hbc] at hst
    have HBC := Lib.hid hbc
    have HS2 := Lib.hid hst
    have q9 : ∀ m, Calls Try.prog 26 #[.slice (some A) k cap, .int .i64 x] (wr.drewN m) fun e w' => e = .returned (.bool b) ∧ w' = wr.drewN m := fun m => (rhas_of _ (l.take k) x b _ (Lib.hid (HIT.out.keep (drew_n wr m))) HBC).mono fun _ _ h => ⟨h.1, h.2.symm⟩
    clear r1 r2 hst hbc
    go_wp2_with fail
    go_quiet (with_reducible exact Calls.quiet_of_same (q9 _))
    have HB3 := Lib.hid (below_keep (drew_n wr nq) HB.out)
    clear q9 q0 HIT
    generalize wr.drewN nq = w3 at HB3 ⊢
    cases b
    · have HN : Hid (chosen (l.take (k + 1)) (l.drop (k + 1)) n = R) := Lib.hid (by rw [HPT.out]; have := HS2.out; rwa [if_neg (by decide)] at this)
      go_wp2
      go_roundw
      case rel => exact ⟨k + 1, by go_num, by omega, HN.out, HB3.out⟩
      case measure => simp [intOf]; omega
    · have hst := HS2.out
      rw [if_pos rfl] at hst
      subst hst
      go_wp2
      go_ret
      exact ⟨rfl, HB3.out⟩
set_option maxRecDepth 100000 in
set_option maxHeartbeats 8000000 in
theorem rnbr_of (v : Value) (n : Int) (l : List Ar) (x : Int) (R : List Int) (w : World) (h : Hid (DgV w v n l)) (hr : Hid (nbrV n l x = R)) :
    Calls Try.prog 19 #[v, .int .i64 x] w (InsOut R w) := by
  obtain ⟨av, rfl, hl⟩ := id h.out
  obtain ⟨ao, c, rfl, -, -, -⟩ := id hl
  have HL := Lib.hid hl
  have HB1 := Lib.hid (al1 w (.cells #[.int .i64 n, .slice ao l.length c] 24))
  have HK1 := Lib.hid (blk_new w #[.int .i64 n, .slice ao l.length c] 24)
  have HV := Lib.hid h.out
  obtain ⟨b, hb⟩ : ∃ b, validD n l = b := ⟨_, rfl⟩
  have hfe := hr.out
  unfold nbrV at hfe
  rw [hb] at hfe
  have HVD := Lib.hid hb
  clear h hl hb hr
  go_enter Try.func19, Try.ntmps19
  go_wp2_with fail
  obtain ⟨g0, hg0⟩ : ∃ g, w.heap.size = g := ⟨_, rfl⟩
  rw [hg0] at HK1
  try simp only [hg0]
  generalize w.alloc (.cells #[.int .i64 n, .slice ao l.length c] 24) = w1 at HB1 HK1 ⊢
  clear hg0
  refine (rvalid_of _ n l b w1 (Lib.hid (HV.out.keep HB1.out)) HVD).mono ?_
  rintro e w2 ⟨rfl, hb2⟩
  have HB2 := Lib.hid (HB1.out.trans (hb2.mono HB1.out.size))
  have HK2 := Lib.hid (blk_keep hb2 HK1.out)
  have HL2 := Lib.hid (HL.out.keep HB2.out)
  clear hb2
  cases b
  case false =>
    rw [if_neg (by decide)] at hfe
    subst hfe
    go_wp2
    go_ret
    exact ⟨_, rfl, Rw.nil .., HB2.out⟩
  rw [if_pos rfl] at hfe
  obtain ⟨h0, h64, h256, -⟩ := validD_iff.1 HVD.out
  obtain ⟨N, rfl⟩ := Int.eq_ofNat_of_zero_le h0
  have hN : N ≤ 64 := by omega
  rw [Int.toNat_natCast] at hfe
  have HR := Lib.hid hfe
  clear hfe h0 h64
  go_wp2_with fail
  go_loopw [5, 6] (fun ov iv wr => ∃ (u : Nat) (C : List Int), iv = .int .i64 u ∧ u ≤ N ∧ nbrK l x u = C ∧ Irow wr w2.heap.size ov C ∧ Below w2.heap.size w2 wr) (fun _ iv _ => N - (intOf iv).toNat)
  case atStart => exact ⟨0, [], rfl, Nat.zero_le _, rfl, own_nil _ _ _ _, Below.refl _ _⟩
  case round =>
    obtain ⟨u, C, rfl, hu, hC, hrow, hb⟩ := hrel
    rename World => wr
    obtain ⟨oo, oc, rfl, -, -⟩ := own_form hrow
    have hCl : C.length ≤ 64 := by rw [← hC]; exact Nat.le_trans (nbrK_len l x u) (by omega)
    have HC := Lib.hid hC
    have HRW := Lib.hid hrow
    have HB := Lib.hid hb
    have hsz := HB.out.size
    have c0 : wr.cell? ⟨g0, 0, none⟩ = some (.int .i64 (N : Int)) := by rw [blk_cell (blk_keep HB.out HK2.out)]; rfl
    have c1 : wr.cell? ⟨g0, 1, none⟩ = some (.slice ao l.length c) := by rw [blk_cell (blk_keep HB.out HK2.out)]; rfl
    clear hC hrow hb
    by_cases hlt : u < N
    case neg =>
      obtain rfl : u = N := by omega
      have hR : C = R := by rw [← HR.out, ← HC.out]
      subst hR
      go_wp2
      go_ret
      exact ⟨_, rfl, HRW.out.ins, HB2.out.trans (HB.out.mono HB2.out.size)⟩
    have k0 : (u : Int) < (N : Int) := by omega
    have k1 : decide ((u : Int) < (N : Int)) = true := decide_eq_true k0
    go_wp2_with fail
    clear c0 k0 k1
    go_loopw [7, 8] (fun mv jv wz => ∃ (i : Nat) (b : Bool), mv = .bool b ∧ jv = .int .i64 i ∧ i ≤ l.length ∧ ((u : Int) != x && (l.take i).any (fun a => joined a u x)) = b ∧ Below wr.heap.size wr wz) (fun _ jv _ => l.length - (intOf jv).toNat)
    case atStart => exact ⟨0, false, rfl, rfl, Nat.zero_le _, by simp, Below.refl _ _⟩
    case round =>
      obtain ⟨i, b, rfl, rfl, hi, hbv, hbz⟩ := hrel
      rename World => wz
      have HZ := Lib.hid (HB.out.trans (hbz.mono HB.out.size))
      have HRZ := Lib.hid (own_keep HRW.out hbz)
      have HBZ := Lib.hid hbz
      have HBV := Lib.hid hbv
      have hszz := HZ.out.size
      have c1 : wz.cell? ⟨g0, 1, none⟩ = some (.slice ao l.length c) := by rw [blk_cell (blk_keep HZ.out HK2.out)]; rfl
      clear hbz hbv
      by_cases hli : i < l.length
      case neg =>
        obtain rfl : i = l.length := by omega
        have hn := HBV.out
        rw [List.take_length] at hn
        have HNE : Hid (near l (u : Int) x = b) := Lib.hid hn
        have hsucc := nbrK_succ l x u
        rw [HNE.out, HC.out] at hsucc
        have HSU := Lib.hid hsucc
        clear hn hsucc
        cases b
        case false =>
          have HN : Hid (nbrK l x (u + 1) = C) := Lib.hid (by rw [HSU.out]; simp)
          go_wp2
          go_roundw
          case rel => exact ⟨u + 1, C, by go_num, by omega, HN.out, HRZ.out, HZ.out⟩
          case measure => simp [intOf]; omega
        case true =>
          have HN : Hid (nbrK l x (u + 1) = C ++ [(u : Int)]) := Lib.hid (by rw [HSU.out]; simp)
          go_wp2_with (at_builtin; refine app_in rfl (.tmp 42) (.tmp 44) rfl w2.heap.size _ C (u : Int) wz.heap.size rfl rfl rfl HRZ (by omega) hszz ?_; intro ao4 cap4 w4 hrow4 hgrow4; have HB4 := Lib.hid (HZ.out.grown hgrow4 hszz (fun q hq => (World.ownsRow.lt HRZ.out q hq).1)); have HR4 := Lib.hid hrow4; clear hgrow4 hrow4)
          go_roundw
          case rel => exact ⟨u + 1, _, by go_num, by omega, HN.out, by simpa using HR4.out, HB4.out⟩
          case measure => simp [intOf]; omega
      obtain ⟨A, rfl, p0, p1⟩ := (HL2.out.keep HZ.out).at hli
      have hst := any_take (fun a => joined a (u : Int) x) hli
      obtain ⟨y, hy⟩ : ∃ y, l[i] = y := ⟨_, rfl⟩
      rw [hy] at p0 p1 hst
      have i0 : (0 : Int) ≤ (i : Int) := by omega
      have i1 : (i : Int) < (l.length : Int) := by omega
      have HST := Lib.hid hst
      clear hy hst
      cases b
      case true =>
        have HN : Hid (((u : Int) != x && (l.take (i + 1)).any (fun a => joined a u x)) = true) := Lib.hid (by
          rw [HST.out]; have := HBV.out; rw [Bool.and_eq_true] at this ⊢; rw [this.1, this.2]; simp)
        go_wp2
        go_roundw
        case rel => exact ⟨i + 1, true, rfl, by go_num, by omega, HN.out, HBZ.out⟩
        case measure => simp [intOf]; omega
      case false =>
        obtain ⟨bu, hux⟩ : ∃ bu, ((u : Int) != x) = bu := ⟨_, rfl⟩
        cases bu
        case false =>
          have HN : Hid (((u : Int) != x && (l.take (i + 1)).any (fun a => joined a u x)) = false) := Lib.hid (by rw [hux]; rfl)
          go_wp2
          go_roundw
          case rel => exact ⟨i + 1, false, rfl, by go_num, by omega, HN.out, HBZ.out⟩
          case measure => simp [intOf]; omega
        case true =>
          obtain ⟨j, hj⟩ : ∃ j, joined y (u : Int) x = j := ⟨_, rfl⟩
          have HN : Hid (((u : Int) != x && (l.take (i + 1)).any (fun a => joined a u x)) = j) := Lib.hid (by
            rw [HST.out]; have := HBV.out; rw [hux, Bool.true_and] at this ⊢; rw [this, hj]; rfl)
          have HJ := Lib.hid hj
          clear hj
          go_wp2_with fail
          refine (rjoined_of y (u : Int) x j wz HJ).mono ?_
          rintro e w5 ⟨rfl, hb5⟩
          have HB5 := Lib.hid (below_keep hb5 HBZ.out)
          clear hb5 c1 p0 p1
          go_wp2
          go_roundw
          case rel => exact ⟨i + 1, j, rfl, by go_num, by omega, HN.out, HB5.out⟩
          case measure => simp [intOf]; omega
end Go.Proofs.Ytkmamdlhpbobhaa.dig
