/-
  The walk of TopoParts over what awake and the code's Reach and Strong return. No condition.
-/
import Derived.Test.YtncedgnpdojkkaaTpoWs
namespace Go.Proofs.Ytncedgnpdojkkaa.tpo
open Go.RowKit dig

/-- Numbers of components: the first k members of c get the number z. -/
def ofK (P : List Int) (c : List Int) (z : Int) : Nat → List Int
  | 0 => P
  | k + 1 => (ofK P c z k).set (c.getD k 0).toNat z
def ofC (T : List (List Int)) (m : Nat) : Nat → List Int
  | 0 => List.replicate m 0
  | i + 1 => ofK (ofC T m i) (T.getD i []) ((i : Int) + 1) (T.getD i []).length
theorem ofK_len (P c : List Int) (z : Int) : ∀ k, (ofK P c z k).length = P.length
  | 0 => rfl
  | k + 1 => by rw [ofK, List.length_set, ofK_len P c z k]
theorem ofC_len (T : List (List Int)) (m : Nat) : ∀ i, (ofC T m i).length = m
  | 0 => by simp [ofC]
  | i + 1 => by rw [ofC, ofK_len, ofC_len T m i]
theorem ofK_spec {P c : List Int} {z : Int} {m : Nat} (hP : P.length = m) (hr : ∀ x ∈ c, 0 ≤ x ∧ x < m) : ∀ k, k ≤ c.length → (∀ x ∈ c.take k, dAt (ofK P c z k) x = z) ∧ ∀ x, 0 ≤ x → x ∉ c.take k → dAt (ofK P c z k) x = dAt P x
  | 0, _ => ⟨fun x hx => by simp at hx, fun x _ _ => rfl⟩
  | k + 1, hk => by
    obtain ⟨h1, h2⟩ := ofK_spec hP hr k (by omega)
    have hlt : k < c.length := by omega
    have hx := hr c[k] (List.getElem_mem hlt)
    have hg : c.getD k 0 = c[k] := by rw [List.getD_eq_getElem?_getD, List.getElem?_eq_getElem hlt]; rfl
    have hl : c[k].toNat < (ofK P c z k).length := by rw [ofK_len]; omega
    rw [ofK, hg, List.take_succ_eq_append_getElem hlt]
    refine ⟨fun x hx2 => ?_, fun x h0 hne => ?_⟩
    · rw [List.mem_append, List.mem_singleton] at hx2
      have hx0 : 0 ≤ x := by
        rcases hx2 with q | q
        · exact (hr x (List.mem_of_mem_take q)).1
        · subst q; exact hx.1
      rw [dAt_set _ _ _ _ hl hx0]
      split
      · rfl
      · rename_i hn
        rcases hx2 with q | q
        · exact h1 x q
        · subst q; exact absurd (by omega) hn
    · rw [List.mem_append, List.mem_singleton] at hne
      rw [dAt_set _ _ _ _ hl h0, if_neg (fun q => hne (Or.inr (by omega)))]
      exact h2 x h0 (fun q => hne (Or.inl q))
theorem ofC_spec {T : List (List Int)} {m : Nat} (hr : ∀ i (hi : i < T.length), ∀ x ∈ T[i], 0 ≤ x ∧ x < m) (hd : ∀ i j (hi : i < T.length) (hj : j < T.length) (x : Int), x ∈ T[i] → x ∈ T[j] → i = j) : ∀ i, i ≤ T.length →
    (∀ j (hj : j < T.length), j < i → ∀ x ∈ T[j], dAt (ofC T m i) x = (j : Int) + 1) ∧ ∀ x, 0 ≤ x → (∀ j (hj : j < T.length), j < i → x ∉ T[j]) → dAt (ofC T m i) x = 0
  | 0, _ => ⟨fun j hj h => by omega, fun x _ _ => dAt_zero m x⟩
  | i + 1, hi => by
    obtain ⟨h1, h2⟩ := ofC_spec hr hd i (by omega)
    have hlt : i < T.length := by omega
    have hg : T.getD i [] = T[i] := by rw [List.getD_eq_getElem?_getD, List.getElem?_eq_getElem hlt]; rfl
    obtain ⟨k1, k2⟩ := ofK_spec (P := ofC T m i) (c := T[i]) (z := (i : Int) + 1) (ofC_len T m i) (hr i hlt) T[i].length (Nat.le_refl _)
    rw [List.take_length] at k1 k2
    rw [ofC, hg]
    refine ⟨fun j hj hji x hx => ?_, fun x h0 hne => ?_⟩
    · by_cases e : j = i
      · subst e; exact k1 x hx
      · rw [k2 x (hr j hj x hx).1 (fun q => e (hd j i hj hlt x hx q))]
        exact h1 j hj (by omega) x hx
    · rw [k2 x h0 (hne i hlt (by omega))]
      exact h2 x h0 (fun j hj hji => hne j hj (by omega))
set_option maxRecDepth 100000 in
set_option maxHeartbeats 16000000 in
theorem wparts (HA : AwakeSays) (HR : RchSays) (HS : StrSays) (v : Value) (n : Int) (l : List Ar) (w : World) (h : Hid (DgV w v n l)) :
    Calls Try.prog 8 #[v] w fun e w' => e = .returned (.bool true) ∧ Below w.heap.size w w' := by
  have hmx : Try.prog.follows .mixedOrders = true := by kernel_rfl
  obtain ⟨av, rfl, hl⟩ := id h.out
  obtain ⟨lo, lc, rfl, -, -, -⟩ := id hl
  obtain ⟨b, hb⟩ : ∃ b, validD n l = b := ⟨_, rfl⟩
  have HVD := Lib.hid hb
  have HA0 := Lib.hid hl
  obtain ⟨W1, hW1⟩ : ∃ W1, w.alloc (.cells #[.int .i64 n, .slice lo l.length lc] 24) = W1 := ⟨_, rfl⟩
  have HB : Hid (Below w.heap.size w W1) := Lib.hid (by rw [← hW1]; exact al1 ..)
  have HD : Hid (dgb W1 w.heap.size n (.slice lo l.length lc)) := Lib.hid (by rw [← hW1]; exact dgb_new ..)
  have HW1 := Lib.hid hW1
  clear hW1 hl h hb
  go_enter Try.func8, Try.ntmps8
  go_wp2_with fail
  rw [HW1.out]
  obtain ⟨g0, hg0⟩ : ∃ g, w.heap.size = g := ⟨_, rfl⟩
  rw [hg0] at HD
  try simp only [hg0]
  have HG0 := Lib.hid hg0
  clear hg0 HW1
  refine (rvalid_of _ n l b W1 (Lib.hid ⟨_, rfl, HA0.out.keep HB.out⟩) HVD).mono ?_
  rintro e w2 ⟨rfl, hb⟩
  have HB2 := Lib.hid (below_keep hb HB.out)
  have HD2 := Lib.hid (dgb_keep HD.out hb)
  clear hb HB HD
  obtain ⟨c0, c1, -, -⟩ := HD2.out
  cases b
  case false =>
    go_wp2_with fail
    refine (HA _).mono ?_
    rintro e w9 ⟨rfl, hb⟩
    go_wp2
    go_ret
    exact ⟨rfl, below_keep hb HB2.out⟩
  by_cases h20 : 20 < n
  case pos =>
    have e1 : decide (20 < n) = true := decide_eq_true h20
    go_wp2_with fail
    refine (HA _).mono ?_
    rintro e w9 ⟨rfl, hb⟩
    go_wp2
    go_ret
    exact ⟨rfl, below_keep hb HB2.out⟩
  have e1 : decide (20 < n) = false := decide_eq_false h20
  obtain ⟨h0, h64, h256, hok⟩ := validD_iff.1 HVD.out
  obtain ⟨m, rfl⟩ := Int.eq_ofNat_of_zero_le h0
  have e2 : decide (20 < m) = false := decide_eq_false (by omega)
  have e3 : ¬ 20 < m := by omega
  have hpart := str_part HVD.out
  obtain ⟨T, hT⟩ : ∃ T, strV (m : Int) l = T := ⟨_, rfl⟩
  rw [hT] at hpart
  obtain ⟨hrange, hasc, hdis, hcov, hmut⟩ := hpart
  have HRG := Lib.hid hrange
  have HAS := Lib.hid hasc
  have HDJ := Lib.hid hdis
  have HCV := Lib.hid hcov
  have HMT := Lib.hid hmut
  have HOC := Lib.hid (ofC_spec (m := m) hrange hdis)
  have HTV := Lib.hid hT
  obtain ⟨i0, hi0, hz0, hz1, hz2⟩ := info_of_cin
  have hbm : i0.bytes * m ≤ 281474976710656 := by rw [hz2]; omega
  have hmm : m ≤ maxLen := by unfold maxLen; omega
  have htl : T.length ≤ 64 := by
    rw [← hT]
    unfold strV
    rw [if_pos HVD.out]
    have := str_len (m : Int) l (m : Int).toNat
    simp only [Int.toNat_natCast] at this ⊢
    omega
  have htl2 : T.length ≤ 9223372036854775807 := by omega
  clear hrange hasc hdis hcov hmut hT hok
  go_wp2_with (at_make; refine wpList_make_full _ rfl _ _ 25 rfl w2.heap.size 3 i0 (.int .i64 0) 1 Try.underlying25 hi0 hz0 hz1 .i64 .i64 _ _ m rfl rfl rfl rfl hbm hmm (Nat.le_refl _) ?_; intro w3 hown hgrow; have hrow0 := Frow.made (c := Value.int .i64) rfl hown; have hb3 := (Below.refl w2.heap.size w2).grown hgrow (Nat.le_refl _) (fun q hq => by cases hq); have d3 := (dgb_keep HD2.out hb3).1; have d4 := (dgb_keep HD2.out hb3).2.1)
  have HB3 := Lib.hid hb3
  have HROW3 : Hid (Zrow w3 w2.heap.size w2.heap.size m (ofC T m 0)) := Lib.hid hrow0
  have hs3 : w2.heap.size < w3.heap.size := by
    rcases Nat.eq_zero_or_pos m with q | q
    · rcases hown.2 with ⟨e, _⟩ | ⟨g, cap, cur, e, _, hg, _⟩
      · cases e
      · cases e
        exact blk_lt (show blk w3 w2.heap.size 3 cur from hg)
    · exact World.block_lt_of_cell? w3 _ (Zrow.at hrow0 q)
  have HD3 := Lib.hid (dgb_keep HD2.out hb3)
  clear hown hgrow hb3 hrow0 c0 c1 e1 e2 e3 h20
  refine (HS _ m l T w3 (Lib.hid ⟨_, rfl, HA0.out.keep (below_keep HB3.out HB2.out)⟩) HTV).mono ?_
  rintro e w4 ⟨v3, rfl, hls, hfr, hb4⟩
  obtain ⟨so, sc, rfl, -, -, -⟩ := id hls
  have HB4 : Hid (Below w2.heap.size w2 w4) := Lib.hid (HB3.out.trans (hb4.mono (by omega)))
  have HROW4 : Hid (Zrow w4 w2.heap.size w2.heap.size m (ofC T m 0)) := Lib.hid (Frow.keep HROW3.out hb4)
  have HLS4 := Lib.hid hls
  have HFR4 := Lib.hid hfr
  clear hls hfr hb4 d3 d4 HROW3 HB3 HD3
  go_wp2_with fail
  go_loopw [5] (fun iv wr => ∃ i : Nat, iv = .int .i64 i ∧ i ≤ T.length ∧ Zrow wr w2.heap.size w2.heap.size m (ofC T m i) ∧ Below w2.heap.size w2 wr ∧ Lst wr (.slice so T.length sc) T ∧ FreshL wr w3.heap.size (.slice so T.length sc)) (fun iv _ => T.length - (intOf iv).toNat)
  case atStart => exact ⟨0, rfl, Nat.zero_le _, HROW4.out, HB4.out, HLS4.out, HFR4.out⟩
  case round =>
    obtain ⟨i, rfl, hi, hrow, hbr, hls, hfr⟩ := hrel
    rename World => wr
    have HROW := Lib.hid hrow
    have HBR := Lib.hid hbr
    have HLS := Lib.hid hls
    have HFR := Lib.hid hfr
    clear hrow hbr hls hfr HROW4 HB4 HLS4 HFR4
    by_cases hit : i < T.length
    case pos =>
      have e4 : (i : Int) < (T.length : Int) := by omega
      have k0 : (0 : Int) ≤ (i : Int) := by omega
      have hgd : T.getD i [] = T[i] := by rw [List.getD_eq_getElem?_getD, List.getElem?_eq_getElem hit]; rfl
      have hofc : ofC T m (i + 1) = ofK (ofC T m i) T[i] ((i : Int) + 1) T[i].length := by rw [ofC, hgd]
      have hsp := ofK_spec (P := ofC T m i) (c := T[i]) (z := (i : Int) + 1) (ofC_len T m i) (HRG.out i hit)
      have hoc := (HOC.out i (by omega)).2
      have hdj := HDJ.out
      have hrg := HRG.out i hit
      have has := HAS.out i hit
      obtain ⟨c, hc⟩ : ∃ c, T[i] = c := ⟨_, rfl⟩
      rw [hc] at hofc hsp hrg has
      have HCE := Lib.hid hc
      have HOFC := Lib.hid hofc
      have HSP := Lib.hid hsp
      have HZ : Hid (∀ x ∈ c, dAt (ofC T m i) x = 0) := Lib.hid (fun x hx => hoc x (hrg x hx).1 (fun j hj hji q => by have := hdj i j hit hj x (by rw [hc]; exact hx) q; omega))
      have HRGC := Lib.hid hrg
      have HASC := Lib.hid has
      have hcl : c.length ≤ 64 := by
        have hx := pig m c (has.imp (fun h e => by omega)) hrg
        omega
      clear hofc hsp hoc hdj hrg has hc hgd
      go_wp2_with fail
      go_loopw [6] (fun kv wq => ∃ k : Nat, kv = .int .i64 k ∧ k ≤ c.length ∧ Zrow wq w2.heap.size w2.heap.size m (ofK (ofC T m i) c ((i : Int) + 1) k) ∧ Below w2.heap.size w2 wq ∧ Lst wq (.slice so T.length sc) T ∧ FreshL wq w3.heap.size (.slice so T.length sc)) (fun kv _ => c.length - (intOf kv).toNat)
      case atStart => exact ⟨0, rfl, Nat.zero_le _, HROW.out, HBR.out, HLS.out, HFR.out⟩
      case round =>
        obtain ⟨k, rfl, hk, hrow, hbq, hls, hfr⟩ := hrel
        rename World => wq
        have HROWQ := Lib.hid hrow
        have HBQ := Lib.hid hbq
        have HLSQ := Lib.hid hls
        have HFRQ := Lib.hid hfr
        obtain ⟨A, u, rfl, q0, hu⟩ := hls.at hit
        obtain ⟨uo, uc, rfl, -, -, -⟩ := id hu
        rw [HCE.out] at q0 hu
        obtain ⟨c0, c1, -, -⟩ := dgb_keep HD2.out hbq
        clear hrow hbq hls hfr
        by_cases hkc : k < c.length
        case neg =>
          obtain rfl : k = c.length := by omega
          have e5 : ¬ (c.length : Int) < (c.length : Int) := by omega
          clear hu
          go_wp2
          go_roundw
          case rel => exact ⟨i + 1, by go_num, by omega, by rw [HOFC.out]; exact HROWQ.out, HBQ.out, HLSQ.out, HFRQ.out⟩
          case measure => simp [intOf]; omega
        have e5 : (k : Int) < (c.length : Int) := by omega
        have k1 : (0 : Int) ≤ (k : Int) := by omega
        obtain ⟨A2, rfl, q1⟩ := hu.at hkc
        have hmem := List.getElem_mem hkc
        have hxr := HRGC.out c[k] hmem
        have hz := (HSP.out k (by omega)).2 c[k] hxr.1 (fun q => by
          obtain ⟨j, hj, e⟩ := List.mem_iff_getElem.1 q
          rw [List.length_take] at hj
          rw [List.getElem_take] at e
          have := List.pairwise_iff_getElem.1 HASC.out j k (by omega) hkc (by omega)
          omega)
        rw [HZ.out c[k] hmem] at hz
        have hgd : c.getD k 0 = c[k] := by rw [List.getD_eq_getElem?_getD, List.getElem?_eq_getElem hkc]; rfl
        have hof : ofK (ofC T m i) c ((i : Int) + 1) (k + 1) = (ofK (ofC T m i) c ((i : Int) + 1) k).set (c.getD k 0).toNat ((i : Int) + 1) := rfl
        obtain ⟨x, hx⟩ : ∃ x, c[k] = x := ⟨_, rfl⟩
        rw [hgd] at hof
        rw [hx] at q1 hxr hz hof
        obtain ⟨x0, x1⟩ := hxr
        obtain ⟨x, rfl⟩ := Int.eq_ofNat_of_zero_le x0
        rw [Int.toNat_natCast] at hof
        have HOF := Lib.hid hof
        have r0 := Zrow.at HROWQ.out (show x < m by omega)
        rw [hz] at r0
        have r1 := Frow.free HROWQ.out x
        have f0 : decide ((x : Int) < 0) = false := decide_eq_false (by omega)
        have f1 : decide ((m : Int) ≤ (x : Int)) = false := decide_eq_false (by omega)
        have f2 : ¬ (x : Int) < 0 := by omega
        have f3 : ¬ (m : Int) ≤ (x : Int) := by omega
        have f4 : decide (m ≤ x) = false := decide_eq_false (by omega)
        have f5 : ¬ m ≤ x := by omega
        have HLF := Lib.hid (fun (u : Value) => Lst.set (b := w2.heap.size) (o := x) (u := u) HLSQ.out HFRQ.out hs3)
        clear hmem hz hgd hof hx hu
        go_wp2
        go_roundw
        case rel => exact ⟨k + 1, by go_num, by omega, by rw [HOF.out]; exact Frow.put HROWQ.out x _, HBQ.out.setCell (Nat.le_refl _) _, (HLF.out _).1, (HLF.out _).2⟩
        case measure => simp [intOf]; omega
    obtain rfl : i = T.length := by omega
    have e4 : ¬ (T.length : Int) < (T.length : Int) := by omega
    obtain ⟨P, hP⟩ : ∃ P, ofC T m T.length = P := ⟨_, rfl⟩
    have hoc := (HOC.out T.length (Nat.le_refl _)).1
    rw [hP] at hoc HROW
    have HPF : Hid (∀ u : Nat, u < m → ∃ i, ∃ (hi : i < T.length), (u : Int) ∈ T[i] ∧ dAt P (u : Int) = (i : Int) + 1) := Lib.hid (fun u hu => by
      obtain ⟨i, hi, hx⟩ := HCV.out u (by omega) (by omega)
      exact ⟨i, hi, hx, hoc i hi hi u hx⟩)
    have HBw := Lib.hid (below_keep HBR.out HB2.out)
    have HDr := Lib.hid (dgb_keep HD2.out HBR.out)
    have hsr : w2.heap.size ≤ wr.heap.size := HBR.out.size
    clear hoc hP HLS HFR HOC hit
    go_wp2_with fail
    go_loopw [8] (fun iv wx => ∃ u : Nat, iv = .int .i64 u ∧ u ≤ m ∧ Below wr.heap.size wr wx) (fun iv _ => m - (intOf iv).toNat)
    case atStart => exact ⟨0, rfl, Nat.zero_le _, Below.refl _ _⟩
    case round =>
      obtain ⟨u, rfl, hum, hbx⟩ := hrel
      rename World => wx
      have HBX := Lib.hid hbx
      obtain ⟨c0, c1, -, -⟩ := dgb_keep HDr.out hbx
      clear hbx
      by_cases hlu : u < m
      case neg =>
        obtain rfl : u = m := by omega
        have e5 : ¬ (u : Int) < (u : Int) := by omega
        go_wp2_with fail
        refine (HA _).mono ?_
        rintro e w9 ⟨rfl, hb⟩
        go_wp2
        go_ret
        exact ⟨rfl, below_keep hb (below_keep HBX.out HBw.out)⟩
      have e5 : (u : Int) < (m : Int) := by omega
      have u0 : (0 : Int) ≤ (u : Int) := by omega
      go_wp2_with fail
      clear c0 c1
      go_loopw [9] (fun iv wy => ∃ z : Nat, iv = .int .i64 z ∧ z ≤ m ∧ Below wr.heap.size wr wy) (fun iv _ => m - (intOf iv).toNat)
      case atStart => exact ⟨0, rfl, Nat.zero_le _, HBX.out⟩
      case round =>
        obtain ⟨z, rfl, hzm, hby⟩ := hrel
        rename World => wy
        have HBY := Lib.hid hby
        obtain ⟨c0, c1, -, -⟩ := dgb_keep HDr.out hby
        clear hby
        by_cases hlz : z < m
        case neg =>
          obtain rfl : z = m := by omega
          have e6 : ¬ (z : Int) < (z : Int) := by omega
          go_wp2
          go_roundw
          case rel => exact ⟨u + 1, by go_num, by omega, HBY.out⟩
          case measure => simp [intOf]; omega
        have e6 : (z : Int) < (m : Int) := by omega
        have z0 : (0 : Int) ≤ (z : Int) := by omega
        obtain ⟨iu, hiu, mu, du⟩ := HPF.out u hlu
        obtain ⟨iz, hiz, mz, dz⟩ := HPF.out z hlz
        have hsame : (iu = iz) ↔ mutB (m : Int) l u z = true := by
          rw [← HMT.out iu hiu u z mu z0 e6]
          exact ⟨fun e => by subst e; exact mz, fun q => HDJ.out iu iz hiu hiz z q mz⟩
        obtain ⟨X, hX⟩ : ∃ X, rchV (m : Int) l u = X := ⟨_, rfl⟩
        obtain ⟨Y, hY⟩ : ∃ Y, rchV (m : Int) l z = Y := ⟨_, rfl⟩
        unfold mutB at hsame
        rw [hX, hY] at hsame
        obtain ⟨p, hp⟩ : ∃ p, X.contains (z : Int) = p := ⟨_, rfl⟩
        obtain ⟨q, hq⟩ : ∃ q, Y.contains (u : Int) = q := ⟨_, rfl⟩
        rw [hp, hq] at hsame
        have HSM := Lib.hid hsame
        have HX := Lib.hid hX
        have HY := Lib.hid hY
        have HP := Lib.hid hp
        have HQ := Lib.hid hq
        have f0 : (((iu : Int) + 1) == 0) = false := by rw [beq_eq_false_iff_ne]; omega
        have f1 : ¬ (iu : Int) + 1 = 0 := by omega
        clear hsame hX hY hp hq mu mz
        go_wp2_with fail
        refine (HR _ m u l X wy (Lib.hid ⟨_, rfl, HA0.out.keep (below_keep HBY.out HBw.out)⟩) HX).mono ?_
        rintro e w5 ⟨v1, rfl, hi, hb⟩
        have HI := Lib.hid hi
        have HB5 := Lib.hid (below_keep hb HBY.out)
        clear hi hb c0 c1
        obtain ⟨c0, c1, -, -⟩ := dgb_keep HDr.out HB5.out
        cases p
        case false =>
          have hne : ¬ iu = iz := fun e => by have := HSM.out.1 e; rw [Bool.false_and] at this; cases this
          have f2 : (((iu : Int) + 1) == ((iz : Int) + 1)) = false := by rw [beq_eq_false_iff_ne]; omega
          have f3 : ¬ (iu : Int) + 1 = (iz : Int) + 1 := by omega
          have f4 : (iu == iz) = false := by rw [beq_eq_false_iff_ne]; exact hne
          have f5 : ((iu : Int) == (iz : Int)) = false := by rw [beq_eq_false_iff_ne]; omega
          have r0 := Zrow.at (Frow.keep HROW.out HB5.out) hlu
          have r1 := Zrow.at (Frow.keep HROW.out HB5.out) hlz
          rw [du] at r0
          rw [dz] at r1
          clear du dz
          go_wp2_with (with_reducible refine (thas_of _ _ z false _ HI HP).mono ?_; rintro e wz ⟨rfl, rfl⟩)
          go_quiet (fail)
          have hbn := drew_n w5 nq
          have HBN := Lib.hid (below_keep hbn HB5.out)
          clear r0 r1 c0 c1 hbn
          generalize w5.drewN nq = wn at HBN ⊢
          go_wp2
          go_roundw
          case rel => exact ⟨z + 1, by go_num, by omega, HBN.out⟩
          case measure => simp [intOf]; omega
        go_wp2_with (with_reducible refine (thas_of _ _ z true _ HI HP).mono ?_; rintro e wz ⟨rfl, rfl⟩)
        refine (HR _ m z l Y w5 (Lib.hid ⟨_, rfl, HA0.out.keep (below_keep HB5.out HBw.out)⟩) HY).mono ?_
        rintro e w6 ⟨v2, rfl, hi, hb⟩
        have HI2 := Lib.hid hi
        have HB6 := Lib.hid (below_keep hb HB5.out)
        clear hi hb c0 c1
        obtain ⟨c0, c1, -, -⟩ := dgb_keep HDr.out HB6.out
        have r0 := Zrow.at (Frow.keep HROW.out HB6.out) hlu
        have r1 := Zrow.at (Frow.keep HROW.out HB6.out) hlz
        rw [du] at r0
        rw [dz] at r1
        cases q
        case false =>
          have hne : ¬ iu = iz := fun e => by have := HSM.out.1 e; cases this
          have f2 : (((iu : Int) + 1) == ((iz : Int) + 1)) = false := by rw [beq_eq_false_iff_ne]; omega
          have f3 : ¬ (iu : Int) + 1 = (iz : Int) + 1 := by omega
          have f4 : (iu == iz) = false := by rw [beq_eq_false_iff_ne]; exact hne
          have f5 : ((iu : Int) == (iz : Int)) = false := by rw [beq_eq_false_iff_ne]; omega
          clear du dz
          go_wp2_with (with_reducible refine (thas_of _ _ u false _ HI2 HQ).mono ?_; rintro e wz ⟨rfl, rfl⟩)
          go_quiet (fail)
          have hbn := drew_n w6 nq
          have HBN := Lib.hid (below_keep hbn HB6.out)
          clear r0 r1 c0 c1 hbn
          generalize w6.drewN nq = wn at HBN ⊢
          go_wp2
          go_roundw
          case rel => exact ⟨z + 1, by go_num, by omega, HBN.out⟩
          case measure => simp [intOf]; omega
        have heq : iu = iz := HSM.out.2 rfl
        subst heq
        have f2 : (((iu : Int) + 1) == ((iu : Int) + 1)) = true := by simp
        clear du dz
        go_wp2_with (with_reducible refine (thas_of _ _ u true _ HI2 HQ).mono ?_; rintro e wz ⟨rfl, rfl⟩)
        go_quiet (fail)
        have hbn := drew_n w6 nq
        have HBN := Lib.hid (below_keep hbn HB6.out)
        clear r0 r1 c0 c1 hbn
        generalize w6.drewN nq = wn at HBN ⊢
        go_wp2
        go_roundw
        case rel => exact ⟨z + 1, by go_num, by omega, HBN.out⟩
        case measure => simp [intOf]; omega
end Go.Proofs.Ytncedgnpdojkkaa.tpo
