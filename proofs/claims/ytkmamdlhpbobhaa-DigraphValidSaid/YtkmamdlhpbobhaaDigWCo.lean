/-
  The walk of DigraphCounts over what awake and the code's Degree, Neighbors, Induced and Same return. No condition.
-/
import Derived.Test.YtkmamdlhpbobhaaDigWNr
namespace Go.Proofs.Ytkmamdlhpbobhaa.dig
open Go.RowKit xpt

theorem degS_rng {l : List Ar} (h : l.length ≤ 100) : ∀ k : Nat, 0 ≤ degS l k ∧ degS l k ≤ 200 * k
  | 0 => by simp [degS]
  | k + 1 => by
    have h1 := degS_rng h k
    have h2 := deg_rng l (k : Int)
    rw [degS]; omega
theorem back_nbr {n : Int} {l : List Ar} {k j : Nat} (hv : validD n l = true) (hk : (k : Int) < n) (hj : j < (nbrV n l k).length) : (nbrV n l (nbrV n l k)[j]).contains (k : Int) = true := by
  obtain ⟨h0, h1, -, -⟩ := validD_iff.1 hv
  have hm := List.getElem_mem hj
  obtain ⟨y, hy⟩ : ∃ y, (nbrV n l k)[j] = y := ⟨_, rfl⟩
  rw [hy] at hm ⊢
  unfold nbrV at hm ⊢
  rw [if_pos hv] at hm ⊢
  obtain ⟨a, b, c⟩ := nbrK_mem.1 hm
  refine List.contains_iff_mem.2 (nbrK_mem.2 ⟨by omega, by omega, ?_⟩)
  rw [near_turn]; exact c
theorem indE_all {n : Int} {l : List Ar} {K : Nat} (hv : validD n l = true) (hK : (K : Int) = n) : indE n l (ints K) = (((n, l), indI (ints K) l 0), 0) := by
  obtain ⟨h0, h1, -, h3⟩ := validD_iff.1 hv
  subst hK
  unfold indE
  rw [if_neg (by rw [hv]; decide), if_neg (by rw [chosen_ints _ K (by omega)]; decide), ind_all h3, ints_len]
set_option maxRecDepth 100000 in
set_option maxHeartbeats 16000000 in
theorem wcounts (HA : AwakeSays) (HDE : DegSays) (HNB : NbrSays) (HIN : IndSays) (v : Value) (n : Int) (l : List Ar) (w : World) (h : Hid (DgV w v n l)) :
    Calls Try.prog 8 #[v] w fun e w' => e = .returned (.bool true) ∧ Below w.heap.size w w' := by
  have hmx : Try.prog.follows .mixedOrders = true := by kernel_rfl
  obtain ⟨av, rfl, hl⟩ := id h.out
  obtain ⟨lo, lc, rfl, hq1, hq2, -⟩ := id hl
  unfold maxLen at hq2
  obtain ⟨W2, hW2⟩ : ∃ W2, w.alloc (.cells #[.int .i64 n, .slice lo l.length lc] 24) = W2 := ⟨_, rfl⟩
  have HB : Hid (Below w.heap.size w W2) := Lib.hid (by rw [← hW2]; exact al1 ..)
  have HD : Hid (dgb W2 w.heap.size n (.slice lo l.length lc)) := Lib.hid (by rw [← hW2]; exact dgb_new ..)
  have HZ : Hid (w.heap.size + 1 ≤ W2.heap.size) := Lib.hid (by rw [← hW2]; simp)
  have HW2 := Lib.hid hW2
  clear hW2 hl hq1
  go_enter Try.func8, Try.ntmps8
  go_wp2_with fail
  rw [HW2.out]
  obtain ⟨g0, hg0⟩ : ∃ g, w.heap.size = g := ⟨_, rfl⟩
  rw [hg0] at HD HZ
  have HG0 := Lib.hid hg0
  try simp only [hg0]
  clear hg0 HW2
  obtain ⟨b, hbv⟩ : ∃ b, validD n l = b := ⟨_, rfl⟩
  refine (rvalid_of _ n l b _ (Lib.hid (h.out.keep HB.out)) (Lib.hid hbv)).mono ?_
  rintro e w3 ⟨rfl, hb⟩
  have HB3 := Lib.hid (below_keep hb HB.out)
  have HD3 := Lib.hid (dgb_keep HD.out hb)
  have HZ3 := Lib.hid (Nat.le_trans HZ.out hb.size)
  clear hb HB HD HZ W2
  obtain ⟨c0, c1, -, -⟩ := HD3.out
  cases b
  case false =>
    go_wp2_with fail
    refine (HA _).mono ?_
    rintro e w9 ⟨rfl, hb⟩
    go_wp2
    go_ret
    exact ⟨rfl, below_keep hb HB3.out⟩
  by_cases hk1 : (100 : Int) < (l.length : Int)
  · have e1 : decide ((100 : Int) < (l.length : Int)) = true := decide_eq_true hk1
    go_wp2_with fail
    refine (HA _).mono ?_
    rintro e w9 ⟨rfl, hb⟩
    go_wp2
    go_ret
    exact ⟨rfl, below_keep hb HB3.out⟩
  have e1 : decide ((100 : Int) < (l.length : Int)) = false := decide_eq_false hk1
  have HVD := Lib.hid hbv
  obtain ⟨h0, h64, -, hok⟩ := validD_iff.1 hbv
  obtain ⟨K, rfl⟩ : ∃ K : Nat, (K : Int) = n := ⟨n.toNat, by omega⟩
  have hl100 : l.length ≤ 100 := by omega
  have hl4 : l.length ≤ 400 := by omega
  have hK : K ≤ 64 := by omega
  have hgw : w.heap.size ≤ g0 := by rw [HG0.out]; exact Nat.le_refl _
  have HOK := Lib.hid hok
  clear h0 h64 hok hbv hk1
  go_wp2_with fail
  clear c0 c1
  go_loopw [3, 4, 5] (fun sv tv iv wr => ∃ (k : Nat) (ao : Option Addr) (cap : Nat), iv = .int .i64 k ∧ k ≤ K ∧ sv = .int .i64 (degS l k) ∧ tv = .slice ao k cap ∧ Irow wr (g0 + 1) (.slice ao k cap) (ints k) ∧ dgb wr g0 (K : Int) (.slice lo l.length lc) ∧ Below w.heap.size w wr ∧ g0 + 1 ≤ wr.heap.size) (fun _ _ iv _ => K - (intOf iv).toNat)
  case atStart => exact ⟨0, none, 0, rfl, Nat.zero_le _, rfl, rfl, own_nil _ _ _ _, HD3.out, HB3.out, HZ3.out⟩
  case round =>
    obtain ⟨k, ao, cap, rfl, hk, rfl, rfl, hrow, hd, hB, hsz⟩ := hrel
    rename World => wr
    have HROW := Lib.hid hrow
    have HD := Lib.hid hd
    have HB := Lib.hid hB
    obtain ⟨c0, c1, -, -⟩ := hd
    clear hrow hB HD3 HB3 HZ3
    by_cases hlt : k < K
    case neg =>
      obtain rfl : k = K := by omega
      have hS := degS_all (n := k) HOK.out
      rw [hS]
      have kw : IntKind.i64.wrap (2 * (l.length : Int)) = 2 * (l.length : Int) := IntWalk.i64_in _ (by omega)
      have ei : decide ((k : Int) < (k : Int)) = false := decide_eq_false (by omega)
      have hin : Ins wr (.slice ao k cap) (ints k) := by have := HROW.out; rw [← ints_len k] at this ⊢; simpa using Irow.ins (B := g0 + 1) (by simpa using this)
      have HIN2 := Lib.hid hin
      clear hin hS
      go_wp2_with fail
      refine (HIN _ _ (k : Int) (k : Int) l l (ints k) (indI (ints k) l 0) 0 _ (Lib.hid (h.out.keep HB.out)) HIN2 (Lib.hid (indE_all HVD.out rfl))).mono ?_
      rintro e w5 ⟨v5, j5, rfl, ⟨a5, rfl, hav⟩, hj5, hb⟩
      obtain ⟨ao5, ac5, rfl, -, -, -⟩ := id hav
      have hbx := al1 w5 (.cells #[.int .i64 (k : Int), .slice ao5 l.length ac5] 24)
      have HB5 := Lib.hid (below_keep hbx (below_keep hb HB.out))
      have HD5 := Lib.hid (dgb_keep (dgb_keep HD.out hb) hbx)
      have HX5 := Lib.hid (dgb_new w5 (k : Int) ao5 l.length ac5 24)
      have HV5 := Lib.hid (hav.keep hbx)
      clear hb hbx hav hj5 c0 c1
      obtain ⟨c0, c1, -, -⟩ := HD5.out
      obtain ⟨x0, x1, -, -⟩ := HX5.out
      go_wp2_with fail
      generalize w5.alloc (.cells #[.int .i64 (k : Int), .slice ao5 l.length ac5] 24) = w6 at *
      refine (rsame_of _ _ (k : Int) (k : Int) l l true _ (Lib.hid ⟨_, rfl, HV5.out⟩) (Lib.hid (h.out.keep HB5.out)) (Lib.hid (by simp))).mono ?_
      rintro e w7 ⟨rfl, hb⟩
      have HB7 := Lib.hid (below_keep hb HB5.out)
      clear hb c0 c1 x0 x1
      go_wp2_with fail
      refine (HA _).mono ?_
      rintro e w9 ⟨rfl, hb⟩
      go_wp2
      go_ret
      exact ⟨rfl, below_keep hb HB7.out⟩
    have ei : decide ((k : Int) < (K : Int)) = true := decide_eq_true (by omega)
    have hr1 := degS_rng hl100 k
    have hr2 := deg_rng l (k : Int)
    have hdv : degV (K : Int) l (k : Int) = deg l (k : Int) := by unfold degV; rw [if_pos HVD.out]
    have kw : IntKind.i64.wrap (degS l k + deg l (k : Int)) = degS l k + deg l (k : Int) := IntWalk.i64_in _ (by omega)
    have HDV := Lib.hid hdv
    obtain ⟨N, hN⟩ : ∃ N, nbrV (K : Int) l (k : Int) = N := ⟨_, rfl⟩
    have HNV := Lib.hid hN
    have hle : (N.length : Int) ≤ deg l (k : Int) := by rw [← hN]; unfold nbrV; rw [if_pos HVD.out]; exact nbr_deg ..
    have eN : decide (deg l (k : Int) < (N.length : Int)) = false := decide_eq_false (by omega)
    have hback : ∀ (j : Nat) (hj : j < N.length), (nbrV (K : Int) l N[j]).contains (k : Int) = true := by
      subst hN; intro j hj; exact back_nbr HVD.out (by omega) hj
    have HBACK := Lib.hid hback
    clear hdv hN hback hle
    go_wp2_with fail
    refine (HDE _ (K : Int) l (k : Int) _ _ (Lib.hid (h.out.keep HB.out)) (Lib.hid hl4) HDV).mono ?_
    rintro e w5 ⟨rfl, hb⟩
    have HB5 := Lib.hid (below_keep hb HB.out)
    have HD5 := Lib.hid (dgb_keep HD.out hb)
    have HR5 : Hid (Irow w5 (g0 + 1) (.slice ao k cap) (ints k)) := Lib.hid (own_keep HROW.out hb)
    have hsz5 : g0 + 1 ≤ w5.heap.size := Nat.le_trans hsz hb.size
    clear hb c0 c1 HB HD HROW
    go_wp2_with (at_builtin; refine app_in rfl (.tmp 32) (.tmp 34) rfl (g0 + 1) _ (ints k) (k : Int) w5.heap.size rfl rfl rfl HR5 (by rw [ints_len]; omega) hsz5 ?_; intro ao6 cap6 w6 hrow6 hgrow6; rw [ints_len] at hrow6 ⊢; have hb6 := (Below.refl (g0 + 1) w5).grown hgrow6 hsz5 (fun q hq => (World.ownsRow.lt HR5.out q hq).1); have HR6 := Lib.hid hrow6; have HD6 := Lib.hid (dgb_below hb6 (by omega) HD5.out); have HB6 := Lib.hid (HB5.out.trans (hb6.mono (by omega))); have hsz6 := Nat.le_trans hsz5 hb6.size; obtain ⟨c0, c1, -, -⟩ := HD6.out; clear hgrow6 hb6 hrow6)
    refine (HNB _ (K : Int) l (k : Int) N _ (Lib.hid (h.out.keep HB6.out)) (Lib.hid hl4) HNV).mono ?_
    rintro e w7 ⟨nv, rfl, hnv, hb⟩
    obtain ⟨no, nc, rfl, hn1, hn2, -⟩ := id hnv
    unfold maxLen at hn2
    have HN7 := Lib.hid hnv
    have HB7 := Lib.hid (below_keep hb HB6.out)
    have HD7 := Lib.hid (dgb_keep HD6.out hb)
    have HR7 := Lib.hid (own_keep HR6.out hb)
    have hsz7 : g0 + 1 ≤ w7.heap.size := Nat.le_trans hsz6 hb.size
    clear hb hnv c0 c1 HB6 HD6 HR6
    obtain ⟨c0, c1, -, -⟩ := HD7.out
    go_wp2_with fail
    refine (HDE _ (K : Int) l (k : Int) _ _ (Lib.hid (h.out.keep HB7.out)) (Lib.hid hl4) HDV).mono ?_
    rintro e w8 ⟨rfl, hb⟩
    have HN8 := Lib.hid (HN7.out.keep hb)
    have HB8 := Lib.hid (below_keep hb HB7.out)
    have HD8 := Lib.hid (dgb_keep HD7.out hb)
    have HR8 := Lib.hid (own_keep HR7.out hb)
    have hsz8 : g0 + 1 ≤ w8.heap.size := Nat.le_trans hsz7 hb.size
    clear hb c0 c1 HB7 HD7 HR7 HN7
    go_wp2_with fail
    go_loopw [7] (fun jv wq => ∃ j : Nat, jv = .int .i64 j ∧ j ≤ N.length ∧ Below w8.heap.size w8 wq) (fun jv _ => N.length - (intOf jv).toNat)
    case atStart => exact ⟨0, rfl, Nat.zero_le _, Below.refl _ _⟩
    case round =>
      obtain ⟨j, rfl, hj, hBq⟩ := hrel
      rename World => wq
      by_cases hjl : j < N.length
      case neg =>
        have ej : decide ((j : Int) < (N.length : Int)) = false := decide_eq_false (by omega)
        go_wp2
        go_roundw
        case rel => exact ⟨k + 1, ao6, cap6, by go_num, by omega, by rw [degS], by rfl, by rw [ints_succ]; exact own_keep HR8.out hBq, dgb_keep HD8.out hBq, below_keep hBq HB8.out, Nat.le_trans hsz8 hBq.size⟩
        case measure => simp [intOf]; omega
      have ej : decide ((j : Int) < (N.length : Int)) = true := decide_eq_true (by omega)
      obtain ⟨A, rfl, p0⟩ := (HN8.out.keep hBq).at hjl
      obtain ⟨y, hy⟩ : ∃ y, N[j] = y := ⟨_, rfl⟩
      have hct := HBACK.out j hjl
      rw [hy] at p0 hct
      have HCT := Lib.hid hct
      obtain ⟨c0, c1, -, -⟩ := dgb_keep HD8.out hBq
      have HBQ := Lib.hid (below_keep hBq HB8.out)
      have HBW := Lib.hid hBq
      obtain ⟨M, hM⟩ : ∃ M, nbrV (K : Int) l y = M := ⟨_, rfl⟩
      have HMV := Lib.hid hM
      have HCM : Hid (M.contains (k : Int) = true) := Lib.hid (by rw [← hM]; exact hct)
      clear hct hM hBq hy
      go_wp2_with fail
      refine tstart (fun W : World => W.cell? ⟨g0, 0, none⟩ = some (.int .i64 (K : Int)) ∧ W.cell? ⟨g0, 1, none⟩ = some (.slice lo l.length lc) ∧ W.cell? (A.add j) = some (.int .i64 y)) 8 (by kernel_rfl) ⟨cell_later' (b_drew wq) c0, cell_later' (b_drew wq) c1, cell_later' (b_drew wq) p0⟩ (fun hHeld => ?_)
      · have hb := b_drew wq
        replace hHeld : (fun W : World => W.cell? ⟨g0, 0, none⟩ = some (.int .i64 (K : Int)) ∧ W.cell? ⟨g0, 1, none⟩ = some (.slice lo l.length lc) ∧ W.cell? (A.add j) = some (.int .i64 y)) wq.drew := hHeld
        generalize wq.drew = y0 at hHeld hb ⊢
        clear c0 c1 p0
        refine ton 0 51 (.agg #[.int .i64 (K : Int), .slice lo l.length lc]) ?_
        refine ton 1 52 (.slice (some A) N.length nc) ?_
        refine ton 2 53 (.int .i64 (j : Int)) ?_
        refine ton 3 54 (.pointer (some (A.add j))) ?_
        refine ton 4 55 (.int .i64 y) ?_
        refine ton 6 57 (.int .i64 (k : Int)) ?_
        try simp only [List.setIfInBounds_toArray, List.set_cons_zero, List.set_cons_succ]
        refine tgo (i := 5) (by kernel_rfl) rfl (fun K hK => ?_)
        go_simp
        refine (HNB _ _ l y M _ (Lib.hid (h.out.keep (below_keep hb HBQ.out))) (Lib.hid hl4) HMV).mono ?_
        rintro e u1 ⟨v1, rfl, hv1, hb'⟩
        refine hK.out _ _ (fun _ => ⟨cell_later' hb' hHeld.1, cell_later' hb' hHeld.2.1, cell_later' hb' hHeld.2.2⟩) (fun hHeld => ?_)
        replace hHeld := hHeld (by decide)
        clear hK K
        try simp only [List.setIfInBounds_toArray, List.set_cons_zero, List.set_cons_succ]
        replace hb := below_keep hb' hb
        have HV1 := Lib.hid hv1
        clear hv1 hb'
        refine tgo (i := 7) (by kernel_rfl) rfl (fun K hK => ?_)
        go_simp
        refine (rhas_of _ M _ true _ HV1 HCM).mono ?_
        rintro e u2 ⟨rfl, rfl⟩
        refine hK.out _ _ (fun _ => hHeld) (fun hHeld => ?_)
        replace hHeld := hHeld (by decide)
        clear hK K
        try simp only [List.setIfInBounds_toArray, List.set_cons_zero, List.set_cons_succ]
        refine tgo (i := 8) (by kernel_rfl) rfl (fun K hK => ?_)
        go_simp
        refine hK.out _ _ (fun h => absurd rfl h) (fun hHeld => ?_)
        clear hK K hHeld
        try simp only [List.setIfInBounds_toArray, List.set_cons_zero, List.set_cons_succ]
        refine tdone (by kernel_rfl) ?_ _
        go_wp2
        go_roundw
        case rel => exact ⟨j + 1, by go_num, by omega, HBW.out.trans (hb.mono HBW.out.size)⟩
        case measure => simp [intOf]; omega
end Go.Proofs.Ytkmamdlhpbobhaa.dig
