/-
  What Longest of the reference of layer 15 returns. Condition: a digraph in memory.
-/
import Derived.Test.YtncedgnpdojkkaaTpoRef2
import Derived.Deep.QuietTactic
import Derived.Lib.QuietBelow
import Derived.StillTailTactics
namespace Go.Proofs.Ytncedgnpdojkkaa.tpo
open Go.RowKit dig

theorem b_drew (w : World) : Below w.heap.size w w.drew := (Below.refl w.heap.size w).drew
theorem dAt_nat {D : List Int} {j : Nat} (h : j < D.length) : dAt D (j : Int) = D[j] := by
  unfold dAt
  rw [Int.toNat_natCast, List.getD_eq_getElem?_getD, List.getElem?_eq_getElem h]; rfl
theorem Zrow.at {w : World} {B g m : Nat} {D : List Int} (h : Zrow w B g m D) {j : Nat} (hj : j < m) : w.cell? ⟨g, j, none⟩ = some (.int .i64 (dAt D (j : Int))) := by
  have hl : j < D.length := by have := h.1; omega
  rw [dAt_nat hl]
  exact Frow.at h hl
theorem lonA_bd {n : Nat} {x M : Int} {D : List Int} {a : Ar} (h0 : 0 ≤ x) (h1 : x < n) (hD : D.length = n) (ha : 0 ≤ a.1) (h : ∀ v, 0 ≤ v → 0 ≤ dAt D v ∧ dAt D v ≤ M) : ∀ v, 0 ≤ v → 0 ≤ dAt (lonA x D a) v ∧ dAt (lonA x D a) v ≤ M + 1 := fun v hv => by
  have hv1 := h v hv
  unfold lonA
  split
  · rw [dAt_set _ _ _ _ (by omega) hv]
    split
    · have := h x h0; have := h a.1 ha; omega
    · omega
  · omega
theorem lonX_bd {n : Nat} {x : Int} (h0 : 0 ≤ x) (h1 : x < n) : ∀ (l : List Ar) (D : List Int) (M : Int), D.length = n → (∀ a ∈ l, okA n a = true) → (∀ v, 0 ≤ v → 0 ≤ dAt D v ∧ dAt D v ≤ M) → ∀ v, 0 ≤ v → 0 ≤ dAt (lonX l D x) v ∧ dAt (lonX l D x) v ≤ M + l.length
  | [], D, M, _, _, h, v, hv => by have := h v hv; simp [lonX]; omega
  | a :: t, D, M, hD, hok, h, v, hv => by
    have := lonX_bd h0 h1 t (lonA x D a) (M + 1) (by rw [lonA_len]; exact hD) (fun b hb => hok b (List.mem_cons_of_mem _ hb)) (lonA_bd h0 h1 hD (okA_iff.1 (hok a (List.mem_cons_self ..))).1 h) v hv
    have e : lonX (a :: t) D x = lonX t (lonA x D a) x := rfl
    rw [e, List.length_cons]
    omega
theorem lonF_bd {l : List Ar} {n : Nat} {o : List Int} (hr : ∀ x ∈ o, 0 ≤ x ∧ x < n) (hok : ∀ a ∈ l, okA n a = true) (hl : l.length ≤ 256) : ∀ k, k ≤ o.length → ∀ v, 0 ≤ v → 0 ≤ dAt (lonF l n (o.take k)) v ∧ dAt (lonF l n (o.take k)) v ≤ 256 * k
  | 0, _, v, _ => by
    have : lonF l n (o.take 0) = List.replicate n 0 := rfl
    rw [this, dAt_zero]; omega
  | k + 1, hk, v, hv => by
    have ih := lonF_bd hr hok hl k (by omega)
    have hx := hr o[k] (List.getElem_mem (by omega))
    rw [lonF_take (by omega)]
    have := lonX_bd hx.1 hx.2 l (lonF l n (o.take k)) (256 * k) (lonF_len ..) hok ih v hv
    omega
set_option maxRecDepth 100000 in
set_option maxHeartbeats 8000000 in
theorem tlong_of (v : Value) (n : Int) (l : List Ar) (L : List Int) (R : Bool) (w : World) (h : Hid (DgV w v n l)) (hr : Hid (lonV n l = (L, R))) :
    Calls Try.prog 12 #[v] w (NbOut L R w) := by
  have hmx : Try.prog.follows .mixedOrders = true := by kernel_rfl
  obtain ⟨av, rfl, hl⟩ := id h.out
  obtain ⟨lo, lc, rfl, -, -, -⟩ := id hl
  have HL := Lib.hid hl
  have HB1 := Lib.hid (al1 w (.cells #[.int .i64 n, .slice lo l.length lc] 24))
  have HK1 := Lib.hid (dgb_new w n lo l.length lc 24)
  have HV := Lib.hid h.out
  obtain ⟨O, b, hb⟩ : ∃ O b, ordV n l = (O, b) := ⟨_, _, rfl⟩
  have hfe := hr.out
  unfold lonV at hfe
  rw [hb] at hfe
  simp only at hfe
  have HOV := Lib.hid hb
  have HFE := Lib.hid hfe
  obtain ⟨W1, hW1⟩ : ∃ W1, w.alloc (.cells #[.int .i64 n, .slice lo l.length lc] 24) = W1 := ⟨_, rfl⟩
  have HW1 := Lib.hid hW1
  rw [hW1] at HB1 HK1
  clear h hl hb hr hfe hW1
  go_enter Try.func12, Try.ntmps12
  go_wp2_with fail
  rw [HW1.out]
  obtain ⟨g0, hg0⟩ : ∃ g, w.heap.size = g := ⟨_, rfl⟩
  have HG0 := Lib.hid hg0
  rw [hg0] at HK1
  try simp only [hg0]
  clear hg0 HW1
  refine (tord_of _ n l O b W1 (Lib.hid (HV.out.keep HB1.out)) HOV).mono ?_
  rintro e w2 ⟨ov, rfl, hO, hb2⟩
  have HB2 := Lib.hid (HB1.out.trans (hb2.mono HB1.out.size))
  have HK2 := Lib.hid (dgb_keep HK1.out hb2)
  clear hb2 HB1 HK1
  obtain ⟨c0, c1, -, -⟩ := HK2.out
  cases b
  case false =>
    have hf := HFE.out
    rw [if_neg (by decide)] at hf
    obtain ⟨rfl, rfl⟩ : L = [] ∧ R = false := ⟨(Prod.mk.inj hf).1.symm, (Prod.mk.inj hf).2.symm⟩
    go_wp2
    refine bodyPost_ret (v := .tuple #[.slice none 0 0, .bool false]) (by simp [results, Try.results12, go_sem]) rfl ?_
    exact ⟨_, rfl, Rw.nil .., HB2.out⟩
  have hf := HFE.out
  rw [if_pos rfl] at hf
  obtain ⟨rfl, rfl⟩ : L = lonF l n.toNat O ∧ R = true := ⟨(Prod.mk.inj hf).1.symm, (Prod.mk.inj hf).2.symm⟩
  obtain ⟨hvd, -, hti, htl⟩ := ordV_true HOV.out
  obtain ⟨h0, h64, h256, hok⟩ := validD_iff.1 hvd
  obtain ⟨m, rfl⟩ := Int.eq_ofNat_of_zero_le h0
  simp only [Int.toNat_natCast] at hti htl ⊢
  obtain ⟨oo, oc, rfl, -, -⟩ := id hO
  have HO := Lib.hid hO
  have HTI := Lib.hid hti
  have HTL := Lib.hid htl
  have HOK := Lib.hid hok
  obtain ⟨i0, hi, hz0, hz1, hz2⟩ := info_of_cin
  have hg1 : g0 < w2.heap.size := World.block_lt_of_cell? w2 _ c0
  have hgw : w.heap.size ≤ g0 := by rw [HG0.out]; exact Nat.le_refl _
  have hbm : i0.bytes * m ≤ 281474976710656 := by rw [hz2]; omega
  have hmm : m ≤ maxLen := by unfold maxLen; omega
  rw [htl] at hO ⊢
  clear hf HFE hvd hti hok hO htl
  go_wp2_with (at_make; refine wpList_make_full _ rfl _ _ 25 rfl w2.heap.size 3 i0 (.int .i64 0) 1 Try.underlying25 hi hz0 hz1 .i64 .i64 _ _ m rfl rfl rfl rfl hbm hmm (Nat.le_refl _) ?_; intro w3 hown hgrow; have hrow0 := Frow.made (c := Value.int .i64) rfl hown; have hb3 := (Below.refl w2.heap.size w2).grown hgrow (Nat.le_refl _) (fun q hq => by cases hq))
  obtain ⟨B2, hB2⟩ : ∃ B2, w2.heap.size = B2 := ⟨_, rfl⟩
  have HB3 := Lib.hid hb3
  have HROW0 : Hid (Zrow w3 w2.heap.size w2.heap.size m (lonF l m (O.take 0))) := Lib.hid hrow0
  have HSZ := Lib.hid hB2
  clear c0 c1 hrow0 hb3 hown hgrow
  rw [hB2] at hg1 HROW0
  simp only [hB2]
  clear hB2
  go_loopw [7] (fun iv wr => ∃ k : Nat, iv = .int .i64 k ∧ k ≤ m ∧ Zrow wr B2 B2 m (lonF l m (O.take k)) ∧ Below w2.heap.size w2 wr) (fun iv _ => m - (intOf iv).toNat)
  case atStart => exact ⟨0, rfl, Nat.zero_le _, HROW0.out, HB3.out⟩
  case round =>
    obtain ⟨k, rfl, hk, hrow, hB⟩ := hrel
    rename World => wr
    obtain ⟨D, hD⟩ : ∃ D, lonF l m (O.take k) = D := ⟨_, rfl⟩
    rw [hD] at hrow
    have HD := Lib.hid hD
    have HROW := Lib.hid hrow
    have HB := Lib.hid hB
    obtain ⟨c0, c1, -, -⟩ := dgb_keep HK2.out hB
    clear hrow hB hD HB3 HROW0
    have hoL : (O.length : Int) = (m : Int) := by have := HTL.out; omega
    by_cases hlt : k < m
    case neg =>
      obtain rfl : k = m := by omega
      have HR : Hid (D = lonF l k O) := Lib.hid (by rw [← HD.out, show O.take k = O from List.take_of_length_le (by have := HTL.out; omega)])
      have e3 : ¬ (k : Int) < (k : Int) := by omega
      clear hoL
      go_wp2
      refine bodyPost_ret (v := .tuple #[.slice (some ⟨B2, 0, none⟩) k k, .bool true]) (by simp [results, Try.results12, go_sem]) rfl ?_
      exact ⟨_, rfl, by rw [← HR.out]; exact Zrow.ins HROW.out, below_keep HB.out HB2.out⟩
    have e3 : (k : Int) < (m : Int) := by omega
    have k0 : (0 : Int) ≤ (k : Int) := by omega
    have hko : k < O.length := by have := HTL.out; omega
    obtain ⟨x, hx⟩ : ∃ x, O[k] = x := ⟨_, rfl⟩
    have hxr := HTI.out.range O[k] (List.getElem_mem hko)
    have hbd := lonF_bd HTI.out.range HOK.out h256 k (by omega)
    rw [hx] at hxr
    obtain ⟨x0, x1⟩ := hxr
    obtain ⟨x, rfl⟩ := Int.eq_ofNat_of_zero_le x0
    rw [HD.out] at hbd
    have HBD := Lib.hid hbd
    have HX := Lib.hid hx
    have hlD : D.length = m := HROW.out.1
    clear x0 hbd hx hoL
    go_wp2_with fail
    clear c0 c1
    go_loopw [8] (fun iv wq => ∃ i : Nat, iv = .int .i64 i ∧ i ≤ l.length ∧ Zrow wq B2 B2 m (lonX (l.take i) D x) ∧ Below w2.heap.size w2 wq) (fun iv _ => l.length - (intOf iv).toNat)
    case atStart => exact ⟨0, rfl, Nat.zero_le _, HROW.out, HB.out⟩
    case round =>
      obtain ⟨i, rfl, hil, hrow, hBq⟩ := hrel
      rename World => wq
      obtain ⟨E, hE⟩ : ∃ E, lonX (l.take i) D x = E := ⟨_, rfl⟩
      rw [hE] at hrow
      have HE := Lib.hid hE
      have HROWQ := Lib.hid hrow
      have HBQ := Lib.hid hBq
      obtain ⟨c0, c1, -, -⟩ := dgb_keep HK2.out hBq
      clear hrow hBq hE HROW HB
      by_cases hlt2 : i < l.length
      case neg =>
        obtain rfl : i = l.length := by omega
        have HN : Hid (lonF l m (O.take (k + 1)) = E) := Lib.hid (by rw [lonF_take hko, HD.out, HX.out, ← HE.out, List.take_length])
        have e4 : ¬ (l.length : Int) < (l.length : Int) := by omega
        go_wp2
        go_roundw
        case rel => exact ⟨k + 1, by go_num, by omega, by rw [HN.out]; exact HROWQ.out, HBQ.out⟩
        case measure => simp [intOf]; omega
      have e4 : (i : Int) < (l.length : Int) := by omega
      have i0' : (0 : Int) ≤ (i : Int) := by omega
      obtain ⟨A, rfl, p0, p1⟩ := (HL.out.keep (below_keep HBQ.out HB2.out)).at hlt2
      obtain ⟨A2, rfl, o0⟩ := (HO.out.keep HBQ.out).at hko
      rw [HX.out] at o0
      have hk := okA_iff.1 (HOK.out _ (List.getElem_mem hlt2))
      have hst := lonX_take hlt2 D x
      rw [HE.out] at hst
      have hbE := lonX_bd (x := (x : Int)) (by omega) x1 (l.take i) D (256 * k) hlD (fun a ha => HOK.out a (List.mem_of_mem_take ha)) HBD.out
      rw [HE.out, List.length_take] at hbE
      obtain ⟨y, hy⟩ : ∃ y, l[i] = y := ⟨_, rfl⟩
      rw [hy] at p0 p1 hk hst
      obtain ⟨y0, y1⟩ := y
      simp only at p0 p1 hk
      obtain ⟨a0, a1, a2, a3⟩ := hk
      obtain ⟨y0, rfl⟩ := Int.eq_ofNat_of_zero_le a0
      unfold lonA at hst
      simp only [Int.toNat_natCast] at hst
      have HST := Lib.hid hst
      have hd0 := hbE y0 (by omega)
      have hd1 := hbE x (by omega)
      have hz : (x : Int) < (m : Int) := x1
      have z0 : (0 : Int) ≤ (x : Int) := by omega
      have z1 : (0 : Int) ≤ (y0 : Int) := by omega
      have z2 : (y0 : Int) < (m : Int) := by omega
      clear hst hy hbE
      cases e5 : (y1 == (x : Int))
      case false =>
        have HN : Hid (lonX (l.take (i + 1)) D x = E) := Lib.hid (by rw [HST.out, if_neg (by simpa using e5)])
        clear hd0 hd1
        go_wp2_with fail
        go_quiet (fail)
        have hbn := drew_n wq nq
        have HROWN := Lib.hid (Frow.keep HROWQ.out hbn)
        have HBN := Lib.hid (below_keep hbn HBQ.out)
        clear p0 p1 o0 c0 c1 hbn
        generalize wq.drewN nq = wn at HROWN HBN ⊢
        go_wp2
        go_roundw
        case rel => exact ⟨i + 1, by go_num, by omega, by rw [HN.out]; exact HROWN.out, HBN.out⟩
        case measure => simp [intOf]; omega
      have HN : Hid (lonX (l.take (i + 1)) D x = E.set x (max (dAt E x) (dAt E y0 + 1))) := Lib.hid (by rw [HST.out, if_pos (by simpa using e5)])
      have q0 := HROWQ.out.at (show y0 < m by omega)
      have q1 := HROWQ.out.at (show x < m by omega)
      have q2 := Frow.free HROWQ.out x
      obtain ⟨d0, hdd0⟩ : ∃ d, dAt E (y0 : Int) = d := ⟨_, rfl⟩
      obtain ⟨d1, hdd1⟩ : ∃ d, dAt E (x : Int) = d := ⟨_, rfl⟩
      rw [hdd0, hdd1] at HN
      rw [hdd0] at q0 hd0
      rw [hdd1] at q1 hd1
      have hd0' : d0 ≤ 100000 := by omega
      have hd0'' : 0 ≤ d0 := by omega
      clear hd0 hd1 hdd0 hdd1
      go_wp2_with fail
      go_quiet (fail)
      have hbn := drew_n wq nq
      have HROWN := Lib.hid (Frow.keep HROWQ.out hbn)
      have HBN := Lib.hid (below_keep hbn HBQ.out)
      replace p0 := cell_later' hbn p0
      replace p1 := cell_later' hbn p1
      replace o0 := cell_later' hbn o0
      replace c0 := cell_later' hbn c0
      replace c1 := cell_later' hbn c1
      replace q0 := cell_later' hbn q0
      replace q1 := cell_later' hbn q1
      replace q2 : (wq.drewN nq).frozen? ⟨B2, x, none⟩ = false := Frow.free HROWN.out x
      clear hbn HROWQ HBQ
      generalize wq.drewN nq = wn at HROWN HBN p0 p1 o0 c0 c1 q0 q1 q2 ⊢
      go_wp2_with fail
      refine wp_region_still_tail 24 (by kernel_rfl) (by kernel_rfl) ?_
      change wpStill _ _ wn.drew (fun a' => wpList _ _ _ _ a' wn.drew) _ _
      have hbd := b_drew wn
      have HROWD := Lib.hid (Frow.keep HROWN.out hbd)
      have HBD2 := Lib.hid (below_keep hbd HBN.out)
      replace p0 := cell_later' hbd p0
      replace o0 := cell_later' hbd o0
      replace c1 := cell_later' hbd c1
      replace q0 := cell_later' hbd q0
      replace q1 := cell_later' hbd q1
      replace q2 : wn.drew.frozen? ⟨B2, x, none⟩ = false := Frow.free HROWD.out x
      clear hbd HROWN HBN p1 c0
      generalize wn.drew = wd at HROWD HBD2 p0 o0 c1 q0 q1 q2 ⊢
      simp only [List.take_succ_cons, List.take_zero, List.drop_succ_cons, List.drop_zero]
      repeat still_step
      refine wpStill_nil ?_
      go_wp2
      go_roundw
      case rel => exact ⟨i + 1, by go_num, by omega, by rw [HN.out]; exact Frow.put HROWD.out x _, HBD2.out.setCell (by have := HSZ.out; simp only; omega) _⟩
      case measure => simp [intOf]; omega
end Go.Proofs.Ytncedgnpdojkkaa.tpo
