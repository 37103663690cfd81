/-
  The walk of TopoOrders over what awake and the code's functions return. No condition.
-/
import Derived.Test.YtncedgnpdojkkaaTpoWs
namespace Go.Proofs.Ytncedgnpdojkkaa.tpo
open Go.RowKit dig xpt

/-- The places of the first numbers of an order. -/
def plc (L : List Int) (m : Nat) : Nat → List Int
  | 0 => List.replicate m 0
  | i + 1 => (plc L m i).set (L.getD i 0).toNat ((i : Int) + 1)
theorem plc_len (L : List Int) (m : Nat) : ∀ i, (plc L m i).length = m
  | 0 => by simp [plc]
  | i + 1 => by rw [plc, List.length_set, plc_len L m i]
theorem plc_spec {L : List Int} {m : Nat} (hn : L.Nodup) (hr : ∀ x ∈ L, 0 ≤ x ∧ x < m) : ∀ i, i ≤ L.length → (∀ (j : Nat) (x : Int), j < i → L[j]? = some x → dAt (plc L m i) x = (j : Int) + 1) ∧ ∀ x, 0 ≤ x → (∀ j, j < i → L[j]? ≠ some x) → dAt (plc L m i) x = 0
  | 0, _ => ⟨fun j x hj => by omega, fun x _ _ => dAt_zero m x⟩
  | i + 1, hi => by
    obtain ⟨h1, h2⟩ := plc_spec hn hr i (by omega)
    have hlt : i < L.length := by omega
    have hx := hr L[i] (List.getElem_mem hlt)
    have hg : L.getD i 0 = L[i] := by rw [List.getD_eq_getElem?_getD, List.getElem?_eq_getElem hlt]; rfl
    have hat : L[i]? = some L[i] := List.getElem?_eq_getElem hlt
    rw [plc, hg]
    refine ⟨fun j x hj hjx => ?_, fun x h0 hne => ?_⟩
    · have hxr := hr x (List.mem_of_getElem? hjx)
      rw [dAt_set _ _ _ _ (by rw [plc_len]; omega) hxr.1]
      by_cases e : j = i
      · subst e
        rw [hjx] at hat
        obtain rfl := Option.some.inj hat
        rw [if_pos (by omega)]
      · rw [if_neg (fun q => e (nodup_idx hn hjx (by rw [hat]; congr 1; omega)))]
        exact h1 j x (by omega) hjx
    · rw [dAt_set _ _ _ _ (by rw [plc_len]; omega) h0, if_neg (fun q => hne i (by omega) (by rw [hat]; congr 1; omega))]
      exact h2 x h0 (fun j hj => hne j (by omega))
set_option maxRecDepth 100000 in
set_option maxHeartbeats 16000000 in
theorem worders (HA : AwakeSays) (HO : OrdSays) (HS : StrSays) (v : Value) (n : Int) (l : List Ar) (w : World) (h : Hid (DgV w v n l)) :
    Calls Try.prog 6 #[v] w fun e w' => e = .returned (.bool true) ∧ Below w.heap.size w w' := by
  have hmx : Try.prog.follows .mixedOrders = true := by kernel_rfl
  obtain ⟨av, rfl, hl⟩ := id h.out
  obtain ⟨lo, lc, rfl, -, -, -⟩ := id hl
  obtain ⟨b, hb⟩ : ∃ b, validD n l = b := ⟨_, rfl⟩
  have HVD := Lib.hid hb
  have HA0 := Lib.hid hl
  obtain ⟨W1, hW1⟩ : ∃ W1, w.alloc (.cells #[.int .i64 n, .slice lo l.length lc] 24) = W1 := ⟨_, rfl⟩
  have HB : Hid (Below w.heap.size w W1) := Lib.hid (by rw [← hW1]; exact al1 ..)
  have HD : Hid (dgb W1 w.heap.size n (.slice lo l.length lc)) := Lib.hid (by rw [← hW1]; exact dgb_new ..)
  have HW1 := Lib.hid hW1
  clear hW1 hl h hb
  go_enter Try.func6, Try.ntmps6
  go_wp2_with fail
  rw [HW1.out]
  obtain ⟨g0, hg0⟩ : ∃ g, w.heap.size = g := ⟨_, rfl⟩
  rw [hg0] at HD
  try simp only [hg0]
  have HG0 := Lib.hid hg0
  clear hg0 HW1
  refine (rvalid_of _ n l b W1 (Lib.hid ⟨_, rfl, HA0.out.keep HB.out⟩) HVD).mono ?_
  rintro e w2 ⟨rfl, hb⟩
  have HB2 := Lib.hid (below_keep hb HB.out)
  have HD2 := Lib.hid (dgb_keep HD.out hb)
  clear hb HB HD
  cases b
  case false =>
    go_wp2_with fail
    refine (HA _).mono ?_
    rintro e w9 ⟨rfl, hb⟩
    go_wp2
    go_ret
    exact ⟨rfl, below_keep hb HB2.out⟩
  obtain ⟨h0, h64, h256, hok⟩ := validD_iff.1 HVD.out
  obtain ⟨m, rfl⟩ := Int.eq_ofNat_of_zero_le h0
  have HOK := Lib.hid hok
  obtain ⟨L, R, hL⟩ : ∃ L R, ordV (m : Int) l = (L, R) := ⟨_, _, rfl⟩
  obtain ⟨T, hT⟩ : ∃ T, strV (m : Int) l = T := ⟨_, rfl⟩
  have hcy := ord_cycle HVD.out
  rw [hL, hT] at hcy
  simp only [Int.toNat_natCast] at hcy
  have HCY := Lib.hid hcy
  have HLV := Lib.hid hL
  have HTV := Lib.hid hT
  obtain ⟨c0, c1, -, -⟩ := HD2.out
  clear hcy hL hT hok
  go_wp2_with fail
  refine (HO _ m l L R w2 (Lib.hid ⟨_, rfl, HA0.out.keep HB2.out⟩) HLV).mono ?_
  rintro e w3 ⟨v1, rfl, hi, hb⟩
  obtain ⟨io, ic, rfl, -, -, -⟩ := id hi
  have HB3 := Lib.hid (below_keep hb HB2.out)
  have HD3 := Lib.hid (dgb_keep HD2.out hb)
  have HI3 := Lib.hid hi
  clear hb hi HB2 HD2 c0 c1
  obtain ⟨c0, c1, -, -⟩ := HD3.out
  go_wp2_with fail
  refine tstart (fun W : World => W.cell? ⟨g0, 0, none⟩ = some (.int .i64 m) ∧ W.cell? ⟨g0, 1, none⟩ = some (.slice lo l.length lc)) 6 (by kernel_rfl) ⟨cell_later' (b_drew w3) c0, cell_later' (b_drew w3) c1⟩ (fun hHeld => ?_)
  have hb := b_drew w3
  replace hHeld : (fun W : World => W.cell? ⟨g0, 0, none⟩ = some (.int .i64 m) ∧ W.cell? ⟨g0, 1, none⟩ = some (.slice lo l.length lc)) w3.drew := hHeld
  generalize w3.drew = y0 at hHeld hb ⊢
  clear c0 c1
  refine ton 0 19 (.agg #[.int .i64 m, .slice lo l.length lc]) ?_
  refine ton 3 22 (.pointer (some ⟨g0, 0, none⟩)) ?_
  refine ton 4 23 (.int .i64 m) ?_
  try simp only [List.setIfInBounds_toArray, List.set_cons_zero, List.set_cons_succ]
  refine tgo (i := 1) (by kernel_rfl) rfl (fun K hK => ?_)
  go_simp
  refine (str_weak HS _ m l T _ (Lib.hid ⟨_, rfl, HA0.out.keep (below_keep hb HB3.out)⟩) HTV).mono ?_
  rintro e w4 ⟨v3, rfl, hi, hb'⟩
  obtain ⟨so, sc, rfl, -, -, -⟩ := id hi
  refine hK.out _ _ (fun _ => ⟨cell_later' hb' hHeld.1, cell_later' hb' hHeld.2⟩) (fun hHeld => ?_)
  replace hHeld := hHeld (by decide)
  clear hK K hi
  try simp only [List.setIfInBounds_toArray, List.set_cons_zero, List.set_cons_succ]
  replace hb := below_keep hb' hb
  clear hb'
  refine ton 2 21 (.int .i64 T.length) ?_
  refine ton 5 24 (.bool (decide ((T.length : Int) < (m : Int)))) ?_
  try simp only [List.setIfInBounds_toArray, List.set_cons_zero, List.set_cons_succ]
  refine tgo (i := 6) (by kernel_rfl) rfl (fun K hK => ?_)
  go_simp
  refine hK.out _ _ (fun h => absurd rfl h) (fun hHeld => ?_)
  clear hK K hHeld
  try simp only [List.setIfInBounds_toArray, List.set_cons_zero, List.set_cons_succ]
  refine tdone (by kernel_rfl) ?_ _
  have HB4 := Lib.hid (below_keep hb HB3.out)
  have HD4 := Lib.hid (dgb_keep HD3.out hb)
  have HI4 := Lib.hid (HI3.out.keep hb)
  obtain ⟨C0, hC0⟩ : ∃ C0, decide (T.length < m) = C0 := ⟨_, rfl⟩
  have hC1 := hC0
  have HCY2 : Hid (R = !(C0 || l.any fun a => a.1 == a.2)) := Lib.hid (by rw [← hC1]; exact HCY.out)
  rw [hC0]
  clear hb HB3 HD3 HI3 hC0 hC1 HCY
  go_wp2_with fail
  go_loopw [5, 6] (fun cv iv wr => ∃ (i : Nat), iv = .int .i64 i ∧ cv = .bool (C0 || (l.take i).any fun a => a.1 == a.2) ∧ i ≤ l.length ∧ Below w4.heap.size w4 wr) (fun _ iv _ => l.length - (intOf iv).toNat)
  case atStart => exact ⟨0, rfl, by simp, Nat.zero_le _, Below.refl _ _⟩
  case round =>
    obtain ⟨i, rfl, rfl, hi, hbr⟩ := hrel
    rename World => wr
    have HBR := Lib.hid hbr
    obtain ⟨c0, c1, -, -⟩ := dgb_keep HD4.out hbr
    clear hbr
    by_cases hlt : i < l.length
    case pos =>
      have e4 : (i : Int) < (l.length : Int) := by omega
      have i0 : (0 : Int) ≤ (i : Int) := by omega
      obtain ⟨A, rfl, p0, p1⟩ := (HA0.out.keep (below_keep HBR.out HB4.out)).at hlt
      have hst : (l.take (i + 1)).any (fun a => a.1 == a.2) = ((l.take i).any (fun a => a.1 == a.2) || (l[i].1 == l[i].2)) := by
        rw [List.take_succ_eq_append_getElem hlt, List.any_append]; simp
      obtain ⟨y, hy⟩ : ∃ y, l[i] = y := ⟨_, rfl⟩
      rw [hy] at p0 p1 hst
      obtain ⟨y0, y1⟩ := y
      simp only at p0 p1 hst
      obtain ⟨C, hC⟩ : ∃ C, (C0 || (l.take i).any fun a => a.1 == a.2) = C := ⟨_, rfl⟩
      rw [hC]
      have hst2 : (C0 || (l.take (i + 1)).any fun a => a.1 == a.2) = (C || (y0 == y1)) := by rw [hst, ← Bool.or_assoc, hC]
      have HST := Lib.hid hst2
      clear hst hst2 hC hy
      cases C
      case true =>
        have HN : Hid ((C0 || (l.take (i + 1)).any fun a => a.1 == a.2) = true) := Lib.hid (by rw [HST.out]; rfl)
        go_wp2_with fail
        go_quiet (fail)
        have hbn := drew_n wr nq
        have HBN := Lib.hid (below_keep hbn HBR.out)
        clear p0 p1 c0 c1 hbn
        generalize wr.drewN nq = wn at HBN ⊢
        go_wp2
        go_roundw
        case rel => exact ⟨i + 1, by go_num, by rw [HN.out], by omega, HBN.out⟩
        case measure => simp [intOf]; omega
      cases e5 : (y0 == y1)
      case true =>
        have HN : Hid ((C0 || (l.take (i + 1)).any fun a => a.1 == a.2) = true) := Lib.hid (by rw [HST.out, e5]; rfl)
        have e6 : y0 = y1 := by simpa using e5
        go_wp2_with fail
        go_quiet (fail)
        have hbn := drew_n wr nq
        have HBN := Lib.hid (below_keep hbn HBR.out)
        clear p0 p1 c0 c1 hbn
        generalize wr.drewN nq = wn at HBN ⊢
        go_wp2
        go_roundw
        case rel => exact ⟨i + 1, by go_num, by rw [HN.out], by omega, HBN.out⟩
        case measure => simp [intOf]; omega
      have HN : Hid ((C0 || (l.take (i + 1)).any fun a => a.1 == a.2) = false) := Lib.hid (by rw [HST.out, e5]; rfl)
      have e6 : ¬ y0 = y1 := by simpa using e5
      go_wp2_with fail
      go_quiet (fail)
      have hbn := drew_n wr nq
      have HBN := Lib.hid (below_keep hbn HBR.out)
      clear p0 p1 c0 c1 hbn
      generalize wr.drewN nq = wn at HBN ⊢
      go_wp2
      go_roundw
      case rel => exact ⟨i + 1, by go_num, by rw [HN.out], by omega, HBN.out⟩
      case measure => simp [intOf]; omega
    obtain rfl : i = l.length := by omega
    have e4 : ¬ (l.length : Int) < (l.length : Int) := by omega
    rw [List.take_length]
    obtain ⟨C, hC⟩ : ∃ C, (C0 || l.any fun a => a.1 == a.2) = C := ⟨_, rfl⟩
    rw [hC]
    have hR : R = !C := by rw [HCY2.out, hC]
    have HB5 := Lib.hid (below_keep HBR.out HB4.out)
    have HD5 := Lib.hid (dgb_keep HD4.out HBR.out)
    have HI5 := Lib.hid (HI4.out.keep HBR.out)
    obtain ⟨i0, hi0, hz0, hz1, hz2⟩ := info_of_cin
    have hbm : i0.bytes * m ≤ 281474976710656 := by rw [hz2]; omega
    have hmm : m ≤ maxLen := by unfold maxLen; omega
    clear hC HCY2 HBR HB4 HD4 HI4 e4 hlt
    cases C
    case true =>
      have hR' : R = false := by rw [hR]; rfl
      subst hR'
      obtain ⟨hLe, -⟩ := ordV_false HLV.out
      subst hLe
      have e4 : ¬ (l.length : Int) < (l.length : Int) := by omega
      clear hR
      go_wp2_with (at_make; refine wpList_make_full _ rfl _ _ 25 rfl wr.heap.size 3 i0 (.int .i64 0) 1 Try.underlying25 hi0 hz0 hz1 .i64 .i64 _ _ m rfl rfl rfl rfl hbm hmm (Nat.le_refl _) ?_; intro w6 hown hgrow; have hb6 := (Below.refl wr.heap.size wr).grown hgrow (Nat.le_refl _) (fun q hq => by cases hq))
      have HB6 := Lib.hid (below_keep hb6 HB5.out)
      have HD6 := Lib.hid (dgb_keep HD5.out hb6)
      clear hown hgrow hb6 c0 c1
      obtain ⟨c0, c1, -, -⟩ := HD6.out
      go_loop [8] (fun iv => iv = .int .i64 0) (fun _ => 0)
      case atStart => rfl
      case round =>
        subst hrel
        go_wp2_with fail
        go_loop [9] (fun iv => iv = .int .i64 0) (fun _ => 0)
        case atStart => rfl
        case round =>
          subst hrel
          go_wp2_with fail
          refine (HA _).mono ?_
          rintro e w9 ⟨rfl, hb⟩
          go_wp2
          go_ret
          exact ⟨rfl, below_keep hb HB6.out⟩
    have hR' : R = true := by rw [hR]; rfl
    subst hR'
    obtain ⟨-, -, hti, htl⟩ := ordV_true HLV.out
    simp only [Int.toNat_natCast] at hti htl
    have HTI := Lib.hid hti
    have HTL := Lib.hid htl
    have HPS := Lib.hid (plc_spec hti.nodup hti.range)
    have htb : ((m : Int) != (m : Int)) = false := by simp
    have e4 : ¬ (l.length : Int) < (l.length : Int) := by omega
    rw [htl]
    clear hR hti htl
    go_wp2_with (at_make; refine wpList_make_full _ rfl _ _ 25 rfl wr.heap.size 3 i0 (.int .i64 0) 1 Try.underlying25 hi0 hz0 hz1 .i64 .i64 _ _ m rfl rfl rfl rfl hbm hmm (Nat.le_refl _) ?_; intro w6 hown hgrow; have hrow0 := Frow.made (c := Value.int .i64) rfl hown; have hb6 := (Below.refl wr.heap.size wr).grown hgrow (Nat.le_refl _) (fun q hq => by cases hq))
    have HB6 := Lib.hid hb6
    have HROW0 : Hid (Zrow w6 wr.heap.size wr.heap.size m (plc L m 0)) := Lib.hid hrow0
    clear hown hgrow hb6 hrow0 c0 c1
    go_loopw [8] (fun iv wq => ∃ k : Nat, iv = .int .i64 k ∧ k ≤ m ∧ Zrow wq wr.heap.size wr.heap.size m (plc L m k) ∧ Below wr.heap.size wr wq) (fun iv _ => m - (intOf iv).toNat)
    case atStart => exact ⟨0, rfl, Nat.zero_le _, HROW0.out, HB6.out⟩
    case round =>
      obtain ⟨k, rfl, hk, hrow, hbq⟩ := hrel
      rename World => wq
      have HROW := Lib.hid hrow
      have HBQ := Lib.hid hbq
      obtain ⟨c0, c1, -, -⟩ := dgb_keep HD5.out hbq
      clear hrow hbq HROW0 HB6
      by_cases hkm : k < m
      case pos =>
        have hko : k < L.length := by have := HTL.out; omega
        obtain ⟨A, rfl, p0⟩ := (HI5.out.keep HBQ.out).at hko
        have hxr := HTI.out.range L[k] (List.getElem_mem hko)
        have hz := (HPS.out k (by omega)).2 L[k] hxr.1 (fun j hj e => by have := nodup_idx HTI.out.nodup e (List.getElem?_eq_getElem hko); omega)
        have hgd : L.getD k 0 = L[k] := by rw [List.getD_eq_getElem?_getD, List.getElem?_eq_getElem hko]; rfl
        have hpl : plc L m (k + 1) = (plc L m k).set (L.getD k 0).toNat ((k : Int) + 1) := rfl
        obtain ⟨x, hx⟩ : ∃ x, L[k] = x := ⟨_, rfl⟩
        rw [hx] at p0 hxr hz hgd
        rw [hgd] at hpl
        obtain ⟨x0, x1⟩ := hxr
        obtain ⟨x, rfl⟩ := Int.eq_ofNat_of_zero_le x0
        rw [Int.toNat_natCast] at hpl
        have HPL := Lib.hid hpl
        have q0 := Zrow.at HROW.out (show x < m by omega)
        rw [hz] at q0
        have e5 : (k : Int) < (m : Int) := by omega
        have k0 : (0 : Int) ≤ (k : Int) := by omega
        have f0 : decide ((x : Int) < 0) = false := decide_eq_false (by omega)
        have f1 : decide ((m : Int) ≤ (x : Int)) = false := decide_eq_false (by omega)
        have f2 : ¬ (x : Int) < 0 := by omega
        have f3 : ¬ (m : Int) ≤ (x : Int) := by omega
        have f4 : decide (m ≤ x) = false := decide_eq_false (by omega)
        have f5 : ¬ m ≤ x := by omega
        have hko' : (k : Int) < (L.length : Int) := by omega
        clear hz hgd hpl hx
        go_wp2_with fail
        go_quiet (fail)
        have hbn := drew_n wq nq
        have HBN := Lib.hid (below_keep hbn HBQ.out)
        have HROWN := Lib.hid (Frow.keep HROW.out hbn)
        replace p0 := cell_later' hbn p0
        replace q0 := cell_later' hbn q0
        have q2 := Frow.free HROWN.out x
        clear c0 c1 hbn HROW HBQ
        generalize wq.drewN nq = wn at HBN HROWN p0 q0 q2 ⊢
        go_wp2
        go_roundw
        case rel => exact ⟨k + 1, by go_num, by omega, by rw [HPL.out]; exact Frow.put HROWN.out x _, HBN.out.setCell (by simp only; omega) _⟩
        case measure => simp [intOf]; omega
      obtain rfl : k = m := by omega
      have e5 : ¬ (k : Int) < (k : Int) := by omega
      have HPK := Lib.hid (HPS.out k (by have := HTL.out; omega))
      clear hkm
      go_wp2_with fail
      clear c0 c1
      go_loopw [9] (fun iv wx => ∃ i : Nat, iv = .int .i64 i ∧ i ≤ l.length ∧ Below wq.heap.size wq wx) (fun iv _ => l.length - (intOf iv).toNat)
      case atStart => exact ⟨0, rfl, Nat.zero_le _, Below.refl _ _⟩
      case round =>
        obtain ⟨i, rfl, hil, hbx⟩ := hrel
        rename World => wx
        have HBX := Lib.hid (below_keep hbx HBQ.out)
        have HROWX := Lib.hid (Frow.keep HROW.out hbx)
        have HQX := Lib.hid hbx
        obtain ⟨c0, c1, -, -⟩ := dgb_keep HD5.out HBX.out
        clear hbx
        by_cases hlt : i < l.length
        case neg =>
          obtain rfl : i = l.length := by omega
          go_wp2_with fail
          refine (HA _).mono ?_
          rintro e w9 ⟨rfl, hb⟩
          go_wp2
          go_ret
          exact ⟨rfl, below_keep hb (below_keep HBX.out HB5.out)⟩
        have e6 : (i : Int) < (l.length : Int) := by omega
        have e7 : decide ((i : Int) < (l.length : Int)) = true := decide_eq_true e6
        have i0' : (0 : Int) ≤ (i : Int) := by omega
        obtain ⟨A, rfl, p0, p1⟩ := (HA0.out.keep (below_keep HBX.out HB5.out)).at hlt
        have hk2 := okA_iff.1 (HOK.out _ (List.getElem_mem hlt))
        obtain ⟨j, hj, hje⟩ := HTI.out.all HTL.out (x := l[i].2) hk2.2.2.1 hk2.2.2.2
        obtain ⟨j2, hj2, hje2⟩ := HTI.out.fwd (List.getElem_mem hlt) hje
        have d0 := HPK.out.1 j _ hj hje
        have d1 := HPK.out.1 j2 _ (by omega) hje2
        obtain ⟨y, hy⟩ : ∃ y, l[i] = y := ⟨_, rfl⟩
        rw [hy] at p0 p1 hk2 d0 d1
        obtain ⟨y0, y1⟩ := y
        simp only at p0 p1 hk2 d0 d1
        obtain ⟨a0, a1, a2, a3⟩ := hk2
        obtain ⟨y0, rfl⟩ := Int.eq_ofNat_of_zero_le a0
        obtain ⟨y1, rfl⟩ := Int.eq_ofNat_of_zero_le a2
        have q0 := Zrow.at HROWX.out (show y0 < k by omega)
        have q1 := Zrow.at HROWX.out (show y1 < k by omega)
        rw [d1] at q0
        rw [d0] at q1
        have f0 : decide ((j : Int) + 1 ≤ (j2 : Int) + 1) = false := decide_eq_false (by omega)
        have f1 : ¬ (j : Int) + 1 ≤ (j2 : Int) + 1 := by omega
        have f2 : decide (j ≤ j2) = false := decide_eq_false (by omega)
        have f3 : ¬ j ≤ j2 := by omega
        have f4 : decide ((j : Int) ≤ (j2 : Int)) = false := decide_eq_false (by omega)
        clear d0 d1 hje hje2 hy
        go_wp2_with fail
        go_quiet (fail)
        have hbn := drew_n wx nq
        have HBN := Lib.hid (below_keep hbn HQX.out)
        clear p0 p1 q0 q1 c0 c1 hbn
        generalize wx.drewN nq = wn at HBN ⊢
        go_wp2
        go_roundw
        case rel => exact ⟨i + 1, by go_num, by omega, HBN.out⟩
        case measure => simp [intOf]; omega
end Go.Proofs.Ytncedgnpdojkkaa.tpo
