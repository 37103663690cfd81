/-
  The walk of TopoRises over what awake and the code's Longest return. No condition.
-/
import Derived.Test.YtncedgnpdojkkaaTpoWs
namespace Go.Proofs.Ytncedgnpdojkkaa.tpo
open Go.RowKit dig xpt

/-- The marks of vertices that an arc reaches with one step more. -/
def tgtA (D : List Int) (T : List Bool) (a : Ar) : List Bool := T.set a.2.toNat (mk T a.2.toNat || (dAt D a.2 == dAt D a.1 + 1))
def tgt (D : List Int) (l : List Ar) (T : List Bool) : List Bool := l.foldl (tgtA D) T
theorem tgt_take {l : List Ar} {k : Nat} (hk : k < l.length) (D : List Int) (T : List Bool) : tgt D (l.take (k + 1)) T = tgtA D (tgt D (l.take k) T) l[k] := by
  unfold tgt
  rw [List.take_succ_eq_append_getElem hk, List.foldl_append]; rfl
theorem mk_setb (I : List Bool) (k u : Nat) (b : Bool) (h : k < I.length) : mk (I.set k b) u = if u = k then b else mk I u := by
  unfold mk
  rw [List.getD_eq_getElem?_getD, List.getD_eq_getElem?_getD, List.getElem?_set]
  by_cases e : k = u
  · subst e; simp [h]
  · rw [if_neg e, if_neg (Ne.symm e)]
theorem tgt_spec {n : Nat} {D : List Int} : ∀ {l : List Ar} {T : List Bool}, T.length = n → (∀ a ∈ l, okA n a = true) → ∀ v : Nat, mk (tgt D l T) v = true ↔ mk T v = true ∨ ∃ a ∈ l, a.2 = (v : Int) ∧ dAt D a.2 = dAt D a.1 + 1
  | [], T, _, _, v => by simp [tgt]
  | a :: t, T, hT, hok, v => by
    have hk := okA_iff.1 (hok a (List.mem_cons_self ..))
    have ih := tgt_spec (D := D) (l := t) (T := tgtA D T a) (by unfold tgtA; rw [List.length_set]; exact hT) (fun b hb => hok b (List.mem_cons_of_mem _ hb)) v
    have e : tgt D (a :: t) T = tgt D t (tgtA D T a) := rfl
    rw [e, ih]
    unfold tgtA
    rw [mk_setb _ _ _ _ (by omega)]
    constructor
    · rintro (h | ⟨b, hb, h⟩)
      · split at h
        · rename_i hv
          rw [Bool.or_eq_true, beq_iff_eq] at h
          rcases h with h | h
          · exact Or.inl (by rw [hv]; exact h)
          · exact Or.inr ⟨a, List.mem_cons_self .., by omega, h⟩
        · exact Or.inl h
      · exact Or.inr ⟨b, List.mem_cons_of_mem _ hb, h⟩
    · rintro (h | ⟨b, hb, h1, h2⟩)
      · left
        split
        · rename_i hv; rw [← hv, h]; rfl
        · exact h
      · rcases List.mem_cons.1 hb with rfl | hb
        · left; rw [if_pos (by omega), Bool.or_eq_true, beq_iff_eq]; exact Or.inr h2
        · exact Or.inr ⟨b, hb, h1, h2⟩
set_option maxRecDepth 100000 in
set_option maxHeartbeats 16000000 in
theorem wrises (HA : AwakeSays) (HLn : LonSays) (v : Value) (n : Int) (l : List Ar) (w : World) (h : Hid (DgV w v n l)) :
    Calls Try.prog 7 #[v] w fun e w' => e = .returned (.bool true) ∧ Below w.heap.size w w' := by
  have hmx : Try.prog.follows .mixedOrders = true := by kernel_rfl
  obtain ⟨av, rfl, hl⟩ := id h.out
  obtain ⟨lo, lc, rfl, -, -, -⟩ := id hl
  obtain ⟨O, R, hO⟩ : ∃ O R, ordV n l = (O, R) := ⟨_, _, rfl⟩
  obtain ⟨D, R2, hD⟩ : ∃ D R2, lonV n l = (D, R2) := ⟨_, _, rfl⟩
  have hfe := hD
  unfold lonV at hfe
  rw [hO] at hfe
  simp only at hfe
  have HFE := Lib.hid hfe
  have HOV := Lib.hid hO
  have HLV := Lib.hid hD
  have HA0 := Lib.hid hl
  obtain ⟨W1, hW1⟩ : ∃ W1, w.alloc (.cells #[.int .i64 n, .slice lo l.length lc] 24) = W1 := ⟨_, rfl⟩
  have HB : Hid (Below w.heap.size w W1) := Lib.hid (by rw [← hW1]; exact al1 ..)
  have HD : Hid (dgb W1 w.heap.size n (.slice lo l.length lc)) := Lib.hid (by rw [← hW1]; exact dgb_new ..)
  have HW1 := Lib.hid hW1
  clear hW1 hl h hO hD hfe
  go_enter Try.func7, Try.ntmps7
  go_wp2_with fail
  rw [HW1.out]
  obtain ⟨g0, hg0⟩ : ∃ g, w.heap.size = g := ⟨_, rfl⟩
  rw [hg0] at HD
  try simp only [hg0]
  have HG0 := Lib.hid hg0
  clear hg0 HW1
  refine (HLn _ n l D R2 W1 (Lib.hid ⟨_, rfl, HA0.out.keep HB.out⟩) HLV).mono ?_
  rintro e w2 ⟨v1, rfl, hi, hb⟩
  obtain ⟨io, ic, rfl, -, -, -⟩ := id hi
  have HB2 := Lib.hid (below_keep hb HB.out)
  have HD2 := Lib.hid (dgb_keep HD.out hb)
  have HI2 := Lib.hid hi
  clear hb hi HB HD
  obtain ⟨c0, c1, -, -⟩ := HD2.out
  cases R
  case false =>
    have hf := HFE.out
    rw [if_neg (by decide)] at hf
    obtain ⟨rfl, rfl⟩ : D = [] ∧ R2 = false := ⟨(Prod.mk.inj hf).1.symm, (Prod.mk.inj hf).2.symm⟩
    clear hf
    go_wp2_with fail
    refine (tord_of _ n l O false w2 (Lib.hid ⟨_, rfl, HA0.out.keep HB2.out⟩) HOV).mono ?_
    rintro e w3 ⟨v2, rfl, hi, hb⟩
    have HB3 := Lib.hid (below_keep hb HB2.out)
    clear hb hi
    go_wp2_with fail
    refine (HA _).mono ?_
    rintro e w9 ⟨rfl, hb⟩
    go_wp2
    go_ret
    exact ⟨rfl, below_keep hb HB3.out⟩
  have hf := HFE.out
  rw [if_pos rfl] at hf
  obtain ⟨rfl, rfl⟩ : D = lonF l n.toNat O ∧ R2 = true := ⟨(Prod.mk.inj hf).1.symm, (Prod.mk.inj hf).2.symm⟩
  obtain ⟨hvd, -, hti, htl⟩ := ordV_true HOV.out
  obtain ⟨h0, h64, h256, hok⟩ := validD_iff.1 hvd
  obtain ⟨m, rfl⟩ := Int.eq_ofNat_of_zero_le h0
  simp only [Int.toNat_natCast] at hti htl HI2 ⊢
  have hmx2 : ∀ x : Int, 0 ≤ x → x < m → dAt (lonF l m O) x = inMax l (lonF l m O) x := fun x q0 q1 => lon_max hti htl hok q0 q1
  have hbd := lonF_bd hti.range hok h256 O.length (Nat.le_refl _)
  rw [List.take_length, htl] at hbd
  have hlen := lonF_len l m O
  obtain ⟨D, hDD⟩ : ∃ D, lonF l m O = D := ⟨_, rfl⟩
  rw [hDD] at hmx2 hbd hlen HI2
  simp only [hDD, hlen]
  rw [hlen] at HI2
  have HMX := Lib.hid hmx2
  have HBD := Lib.hid hbd
  have HOK := Lib.hid hok
  have HLN := Lib.hid hlen
  obtain ⟨i0, hi0, hz0, hz1, hz2⟩ := info_of_cb
  have hbm : i0.bytes * m ≤ 281474976710656 := by rw [hz2]; omega
  have hmm : m ≤ maxLen := by unfold maxLen; omega
  have htb : ((m : Int) != (m : Int)) = false := by simp
  clear hf HFE hvd hti htl hok hmx2 hbd hDD hlen HLV HOV
  go_wp2_with (at_make; refine wpList_make_full _ rfl _ _ 38 rfl w2.heap.size 4 i0 (.bool false) 1 Try.underlying38 hi0 hz0 hz1 .i64 .i64 _ _ m rfl rfl rfl rfl hbm hmm (Nat.le_refl _) ?_; intro w3 hown hgrow; have hrow0 := Frow.made (c := Value.bool) rfl hown; have hb3 := (Below.refl w2.heap.size w2).grown hgrow (Nat.le_refl _) (fun q hq => by cases hq))
  have HB3 := Lib.hid hb3
  have HROW0 : Hid (Brow w3 w2.heap.size w2.heap.size m (tgt D (l.take 0) (List.replicate m false))) := Lib.hid hrow0
  clear hown hgrow hb3 hrow0 c0 c1
  go_loopw [8] (fun iv wr => ∃ i : Nat, iv = .int .i64 i ∧ i ≤ l.length ∧ Brow wr w2.heap.size w2.heap.size m (tgt D (l.take i) (List.replicate m false)) ∧ Below w2.heap.size w2 wr) (fun iv _ => l.length - (intOf iv).toNat)
  case atStart => exact ⟨0, rfl, Nat.zero_le _, HROW0.out, HB3.out⟩
  case round =>
    obtain ⟨i, rfl, hil, hrow, hbr⟩ := hrel
    rename World => wr
    obtain ⟨T, hT⟩ : ∃ T, tgt D (l.take i) (List.replicate m false) = T := ⟨_, rfl⟩
    rw [hT] at hrow
    have HT := Lib.hid hT
    have HROW := Lib.hid hrow
    have HBR := Lib.hid hbr
    obtain ⟨c0, c1, -, -⟩ := dgb_keep HD2.out hbr
    clear hrow hbr hT HROW0 HB3
    by_cases hlt : i < l.length
    case neg =>
      obtain rfl : i = l.length := by omega
      have e4 : ¬ (l.length : Int) < (l.length : Int) := by omega
      have hts : ∀ u : Nat, mk T u = true ↔ ∃ a ∈ l, a.2 = (u : Int) ∧ dAt D a.2 = dAt D a.1 + 1 := fun u => by
        have hh := tgt_spec (D := D) (l := l) (T := List.replicate m false) (by simp) HOK.out u
        have he : tgt D l (List.replicate m false) = T := by rw [← HT.out, List.take_length]
        rw [he, mk_zero] at hh
        simpa using hh
      have HTS := Lib.hid hts
      clear hts
      go_wp2_with fail
      clear c0 c1
      go_loopw [10] (fun iv wx => ∃ u : Nat, iv = .int .i64 u ∧ u ≤ m ∧ Below wr.heap.size wr wx) (fun iv _ => m - (intOf iv).toNat)
      case atStart => exact ⟨0, rfl, Nat.zero_le _, Below.refl _ _⟩
      case round =>
        obtain ⟨u, rfl, hum, hbx⟩ := hrel
        rename World => wx
        have HQX := Lib.hid hbx
        have HBX := Lib.hid (below_keep hbx HBR.out)
        have HROWX : Hid (Brow wx w2.heap.size w2.heap.size m T) := Lib.hid (Frow.keep HROW.out hbx)
        obtain ⟨c0, c1, -, -⟩ := dgb_keep HD2.out HBX.out
        clear hbx
        by_cases hlu : u < m
        case neg =>
          obtain rfl : u = m := by omega
          have e5 : ¬ (u : Int) < (u : Int) := by omega
          go_wp2_with fail
          refine (HA _).mono ?_
          rintro e w9 ⟨rfl, hb⟩
          go_wp2
          go_ret
          exact ⟨rfl, below_keep hb (below_keep HBX.out HB2.out)⟩
        have e5 : (u : Int) < (m : Int) := by omega
        have u0 : (0 : Int) ≤ (u : Int) := by omega
        have hdl : u < D.length := by have := HLN.out; omega
        have hins := HI2.out.keep HBX.out
        obtain ⟨A, rfl, p0⟩ := hins.at hdl
        rw [← dAt_nat hdl] at p0
        have q0 := Brow.at HROWX.out hlu
        have hm := HMX.out u u0 e5
        obtain ⟨s1, s2, s3⟩ := inMax_spec l D u
        rw [← hm] at s1 s2 s3
        have hts := HTS.out u
        obtain ⟨d, hd⟩ : ∃ d, dAt D (u : Int) = d := ⟨_, rfl⟩
        obtain ⟨p, hp⟩ : ∃ p, mk T u = p := ⟨_, rfl⟩
        rw [hp] at hts q0
        rw [hd] at p0 s1 s2 s3
        have f0 : decide (d < 0) = false := decide_eq_false (by omega)
        have f1 : ¬ d < 0 := by omega
        have hdp : (d == 0) = !p := by
          cases p with
          | true =>
            obtain ⟨a, ha, ha1, ha2⟩ := hts.1 rfl
            have hk := okA_iff.1 (HOK.out a ha)
            have hfa := (HBD.out a.1 hk.1).1
            rw [ha1, hd] at ha2
            have : ¬ d = 0 := by omega
            simpa using this
          | false =>
            have : d = 0 := by
              rcases s3 with s3 | ⟨a, ha, ha1, ha2⟩
              · exact s3
              · exact absurd (hts.2 ⟨a, ha, ha1, by rw [ha1, hd]; exact ha2⟩) (by decide)
            simpa using this
        clear hm s1 s2 s3 hts hd hp hins
        cases p
        all_goals
          have e6 := hdp
          have e7 := hdp
          simp only [Bool.not_true, Bool.not_false, beq_iff_eq, beq_eq_false_iff_ne, ne_eq] at e6 e7
          clear hdp
          go_wp2_with fail
          go_quiet (fail)
          have hbn := drew_n wx nq
          have HBN := Lib.hid (below_keep hbn HQX.out)
          clear p0 q0 c0 c1 hbn
          generalize wx.drewN nq = wn at HBN ⊢
          go_wp2
          go_roundw
          case rel => exact ⟨u + 1, by go_num, by omega, HBN.out⟩
          case measure => simp [intOf]; omega
    have e4 : (i : Int) < (l.length : Int) := by omega
    have k0 : (0 : Int) ≤ (i : Int) := by omega
    obtain ⟨A, rfl, p0, p1⟩ := (HA0.out.keep (below_keep HBR.out HB2.out)).at hlt
    have hk := okA_iff.1 (HOK.out _ (List.getElem_mem hlt))
    have hst := tgt_take hlt D (List.replicate m false)
    rw [HT.out] at hst
    have hm := HMX.out l[i].2 hk.2.2.1 hk.2.2.2
    have hs2 := (inMax_spec l D l[i].2).2.1 l[i] (List.getElem_mem hlt) rfl
    rw [← hm] at hs2
    obtain ⟨y, hy⟩ : ∃ y, l[i] = y := ⟨_, rfl⟩
    rw [hy] at p0 p1 hk hst hs2
    obtain ⟨y0, y1⟩ := y
    simp only at p0 p1 hk hs2
    obtain ⟨a0, a1, a2, a3⟩ := hk
    obtain ⟨y0, rfl⟩ := Int.eq_ofNat_of_zero_le a0
    obtain ⟨y1, rfl⟩ := Int.eq_ofNat_of_zero_le a2
    unfold tgtA at hst
    simp only [Int.toNat_natCast] at hst
    have hb0 := HBD.out y0 a0
    have hdl0 : y0 < D.length := by have := HLN.out; omega
    have hdl1 : y1 < D.length := by have := HLN.out; omega
    obtain ⟨wb, hwb⟩ : ∃ wb, wr.alloc (.cells #[.int .i64 (y0 : Int), .int .i64 (y1 : Int)] 37) = wb := ⟨_, rfl⟩
    obtain ⟨gx, hgx⟩ : ∃ gx, wr.heap.size = gx := ⟨_, rfl⟩
    have hbb : Below wr.heap.size wr wb := by rw [← hwb]; exact al1 ..
    have HBb := Lib.hid (below_keep hbb HBR.out)
    have HROWb : Hid (Brow wb w2.heap.size w2.heap.size m T) := Lib.hid (Frow.keep HROW.out hbb)
    have HXb : Hid (blk wb gx 37 #[.int .i64 (y0 : Int), .int .i64 (y1 : Int)]) := Lib.hid (by rw [← hwb, ← hgx]; exact blk_new ..)
    have hins := HI2.out.keep HBb.out
    obtain ⟨A2, rfl, r0⟩ := hins.at hdl0
    obtain ⟨A3, eA, r1⟩ := hins.at hdl1
    cases eA
    rw [← dAt_nat hdl0] at r0
    rw [← dAt_nat hdl1] at r1
    obtain ⟨d0, hd0⟩ : ∃ d, dAt D (y0 : Int) = d := ⟨_, rfl⟩
    obtain ⟨d1, hd1⟩ : ∃ d, dAt D (y1 : Int) = d := ⟨_, rfl⟩
    rw [hd0] at r0 hs2 hb0
    rw [hd1] at r1 hs2
    rw [hd0, hd1] at hst
    have hb0a : d0 ≤ 100000 := by omega
    have hb0b : 0 ≤ d0 := hb0.1
    have f0 : decide (d1 ≤ d0) = false := decide_eq_false (by omega)
    have f1 : ¬ d1 ≤ d0 := by omega
    have HST := Lib.hid hst
    have HWB := Lib.hid hwb
    have HGX := Lib.hid hgx
    have z1 : (y0 : Int) < (m : Int) := by omega
    have z2 : (y1 : Int) < (m : Int) := by omega
    have t0 : wb.cell? ⟨gx, 0, none⟩ = some (.int .i64 (y0 : Int)) := by rw [blk_cell HXb.out]; rfl
    have t1 : wb.cell? ⟨gx, 1, none⟩ = some (.int .i64 (y1 : Int)) := by rw [blk_cell HXb.out]; rfl
    clear hst hm hs2 hy hwb hgx hbb hins hd0 hd1 hb0
    go_wp2_with fail
    try simp only [HGX.out]
    rw [HWB.out]
    clear p0 p1 c0 c1
    go_quiet (fail)
    have hbn := drew_n wb nq
    have HBN := Lib.hid (below_keep hbn HBb.out)
    have HROWN : Hid (Brow (wb.drewN nq) w2.heap.size w2.heap.size m T) := Lib.hid (Frow.keep HROWb.out hbn)
    replace t0 := cell_later' hbn t0
    replace t1 := cell_later' hbn t1
    replace r0 := cell_later' hbn r0
    replace r1 := cell_later' hbn r1
    clear hbn HBb HROWb HXb HWB
    generalize wb.drewN nq = wn at HBN HROWN t0 t1 r0 r1 ⊢
    have q0 := Brow.at HROWN.out (show y1 < m by omega)
    have q2 := Frow.free HROWN.out y1
    obtain ⟨p, hp⟩ : ∃ p, mk T y1 = p := ⟨_, rfl⟩
    rw [hp] at q0
    have hst := HST.out
    rw [hp] at hst
    obtain ⟨q, hq⟩ : ∃ q, (d1 == d0 + 1) = q := ⟨_, rfl⟩
    rw [hq] at hst
    have HST2 := Lib.hid hst
    have hq1 : decide (d1 = d0 + 1) = q := by rw [← hq]; rfl
    clear hp hst HST
    have hwr : IntKind.i64.wrap (d0 + 1) = d0 + 1 := IntWalk.i64_in _ (by omega)
    go_wp2_with fail
    refine tstart (fun W : World => W.cell? ⟨gx, 0, none⟩ = some (.int .i64 (y0 : Int)) ∧ W.cell? ⟨gx, 1, none⟩ = some (.int .i64 (y1 : Int)) ∧ W.cell? (A2.add y0) = some (.int .i64 d0) ∧ W.cell? (A2.add y1) = some (.int .i64 d1) ∧ W.cell? ⟨w2.heap.size, y1, none⟩ = some (.bool p) ∧ W.frozen? ⟨w2.heap.size, y1, none⟩ = false) 23 (by kernel_rfl) ⟨cell_later' (b_drew wn) t0, cell_later' (b_drew wn) t1, cell_later' (b_drew wn) r0, cell_later' (b_drew wn) r1, cell_later' (b_drew wn) q0, q2⟩ (fun hHeld => ?_)
    have hbd := b_drew wn
    have HBD2 := Lib.hid (below_keep hbd HBN.out)
    have HROWD : Hid (Brow wn.drew w2.heap.size w2.heap.size m T) := Lib.hid (Frow.keep HROWN.out hbd)
    replace hHeld : (fun W : World => W.cell? ⟨gx, 0, none⟩ = some (.int .i64 (y0 : Int)) ∧ W.cell? ⟨gx, 1, none⟩ = some (.int .i64 (y1 : Int)) ∧ W.cell? (A2.add y0) = some (.int .i64 d0) ∧ W.cell? (A2.add y1) = some (.int .i64 d1) ∧ W.cell? ⟨w2.heap.size, y1, none⟩ = some (.bool p) ∧ W.frozen? ⟨w2.heap.size, y1, none⟩ = false) wn.drew := hHeld
    clear hbd HBN HROWN t0 t1 r0 r1 q0 q2
    generalize wn.drew = wd at HBD2 HROWD hHeld ⊢
    refine ton 0 64 (.slice (some ⟨w2.heap.size, 0, none⟩) m m) ?_
    refine ton 1 65 (.pointer (some ⟨gx, 1, none⟩)) ?_
    refine ton 2 66 (.int .i64 (y1 : Int)) ?_
    refine ton 3 67 (.slice (some ⟨w2.heap.size, 0, none⟩) m m) ?_
    try simp only [List.setIfInBounds_toArray, List.set_cons_zero, List.set_cons_succ]
    refine ton 4 68 (.pointer (some ⟨gx, 1, none⟩)) ?_
    try simp only [List.setIfInBounds_toArray, List.set_cons_zero, List.set_cons_succ]
    refine ton 5 69 (.int .i64 (y1 : Int)) ?_
    try simp only [List.setIfInBounds_toArray, List.set_cons_zero, List.set_cons_succ]
    refine ton 6 70 (.pointer (some ⟨w2.heap.size, y1, none⟩)) ?_
    try simp only [List.setIfInBounds_toArray, List.set_cons_zero, List.set_cons_succ]
    refine ton 7 71 (.bool p) ?_
    try simp only [List.setIfInBounds_toArray, List.set_cons_zero, List.set_cons_succ]
    refine ton 8 72 (.bool p) ?_
    try simp only [List.setIfInBounds_toArray, List.set_cons_zero, List.set_cons_succ]
    try simp only [List.setIfInBounds_toArray, List.set_cons_zero, List.set_cons_succ]
    cases p
    case true =>
      have HN : Hid (tgt D (l.take (i + 1)) (List.replicate m false) = T.set y1 true) := Lib.hid (by rw [HST2.out]; rfl)
      refine tof 9 73 ?_
      try simp only [List.setIfInBounds_toArray, List.set_cons_zero, List.set_cons_succ]
      refine tof 10 74 ?_
      try simp only [List.setIfInBounds_toArray, List.set_cons_zero, List.set_cons_succ]
      refine tof 11 75 ?_
      try simp only [List.setIfInBounds_toArray, List.set_cons_zero, List.set_cons_succ]
      refine tof 12 76 ?_
      try simp only [List.setIfInBounds_toArray, List.set_cons_zero, List.set_cons_succ]
      refine tof 13 77 ?_
      try simp only [List.setIfInBounds_toArray, List.set_cons_zero, List.set_cons_succ]
      refine tof 14 78 ?_
      try simp only [List.setIfInBounds_toArray, List.set_cons_zero, List.set_cons_succ]
      refine tof 15 79 ?_
      try simp only [List.setIfInBounds_toArray, List.set_cons_zero, List.set_cons_succ]
      refine tof 16 80 ?_
      try simp only [List.setIfInBounds_toArray, List.set_cons_zero, List.set_cons_succ]
      refine tof 17 81 ?_
      try simp only [List.setIfInBounds_toArray, List.set_cons_zero, List.set_cons_succ]
      refine tof 18 82 ?_
      try simp only [List.setIfInBounds_toArray, List.set_cons_zero, List.set_cons_succ]
      refine tof 19 83 ?_
      try simp only [List.setIfInBounds_toArray, List.set_cons_zero, List.set_cons_succ]
      refine tof 20 84 ?_
      try simp only [List.setIfInBounds_toArray, List.set_cons_zero, List.set_cons_succ]
      try simp only [List.setIfInBounds_toArray, List.set_cons_zero, List.set_cons_succ]
      refine ton 21 85 (.bool true) ?_
      try simp only [List.setIfInBounds_toArray, List.set_cons_zero, List.set_cons_succ]
      refine ton 22 86 (.pointer (some ⟨w2.heap.size, y1, none⟩)) ?_
      try simp only [List.setIfInBounds_toArray, List.set_cons_zero, List.set_cons_succ]
      try simp only [List.setIfInBounds_toArray, List.set_cons_zero, List.set_cons_succ]
      refine tgo (i := 23) (by kernel_rfl) rfl (fun K hK => ?_)
      obtain ⟨-, -, -, -, q0, q2⟩ := id hHeld
      go_simp
      refine hK.out _ _ (fun h => absurd rfl h) (fun hHeld => ?_)
      clear hK K hHeld q0 q2
      try simp only [List.setIfInBounds_toArray, List.set_cons_zero, List.set_cons_succ]
      refine tdone (by kernel_rfl) ?_ _
      go_wp2
      go_roundw
      case rel => exact ⟨i + 1, by go_num, by omega, by rw [HN.out]; exact Frow.put HROWD.out y1 _, HBD2.out.setCell (Nat.le_refl _) _⟩
      case measure => simp [intOf]; omega
    have HN : Hid (tgt D (l.take (i + 1)) (List.replicate m false) = T.set y1 q) := Lib.hid (by rw [HST2.out]; rfl)
    refine ton 9 73 (.slice (some A2) m ic) ?_
    try simp only [List.setIfInBounds_toArray, List.set_cons_zero, List.set_cons_succ]
    refine ton 10 74 (.pointer (some ⟨gx, 1, none⟩)) ?_
    try simp only [List.setIfInBounds_toArray, List.set_cons_zero, List.set_cons_succ]
    refine ton 11 75 (.int .i64 (y1 : Int)) ?_
    try simp only [List.setIfInBounds_toArray, List.set_cons_zero, List.set_cons_succ]
    refine ton 12 76 (.pointer (some (A2.add y1))) ?_
    try simp only [List.setIfInBounds_toArray, List.set_cons_zero, List.set_cons_succ]
    refine ton 13 77 (.int .i64 d1) ?_
    try simp only [List.setIfInBounds_toArray, List.set_cons_zero, List.set_cons_succ]
    refine ton 14 78 (.slice (some A2) m ic) ?_
    try simp only [List.setIfInBounds_toArray, List.set_cons_zero, List.set_cons_succ]
    refine ton 15 79 (.pointer (some ⟨gx, 0, none⟩)) ?_
    try simp only [List.setIfInBounds_toArray, List.set_cons_zero, List.set_cons_succ]
    refine ton 16 80 (.int .i64 (y0 : Int)) ?_
    try simp only [List.setIfInBounds_toArray, List.set_cons_zero, List.set_cons_succ]
    refine ton 17 81 (.pointer (some (A2.add y0))) ?_
    try simp only [List.setIfInBounds_toArray, List.set_cons_zero, List.set_cons_succ]
    refine ton 18 82 (.int .i64 d0) ?_
    try simp only [List.setIfInBounds_toArray, List.set_cons_zero, List.set_cons_succ]
    refine ton 19 83 (.int .i64 (d0 + 1)) ?_
    try simp only [List.setIfInBounds_toArray, List.set_cons_zero, List.set_cons_succ]
    refine ton 20 84 (.bool q) ?_
    try simp only [List.setIfInBounds_toArray, List.set_cons_zero, List.set_cons_succ]
    try simp only [List.setIfInBounds_toArray, List.set_cons_zero, List.set_cons_succ]
    refine ton 21 85 (.bool q) ?_
    try simp only [List.setIfInBounds_toArray, List.set_cons_zero, List.set_cons_succ]
    refine ton 22 86 (.pointer (some ⟨w2.heap.size, y1, none⟩)) ?_
    try simp only [List.setIfInBounds_toArray, List.set_cons_zero, List.set_cons_succ]
    try simp only [List.setIfInBounds_toArray, List.set_cons_zero, List.set_cons_succ]
    refine tgo (i := 23) (by kernel_rfl) rfl (fun K hK => ?_)
    obtain ⟨-, -, -, -, q0, q2⟩ := id hHeld
    go_simp
    refine hK.out _ _ (fun h => absurd rfl h) (fun hHeld => ?_)
    clear hK K hHeld q0 q2
    try simp only [List.setIfInBounds_toArray, List.set_cons_zero, List.set_cons_succ]
    refine tdone (by kernel_rfl) ?_ _
    go_wp2
    go_roundw
    case rel => exact ⟨i + 1, by go_num, by omega, by rw [HN.out]; exact Frow.put HROWD.out y1 _, HBD2.out.setCell (Nat.le_refl _) _⟩
    case measure => simp [intOf]; omega
end Go.Proofs.Ytncedgnpdojkkaa.tpo
