/-
  What Strong of the landed code of layer 15 returns. Condition: a digraph in memory.
-/
import Derived.Test.YtncedgnpdojkkaaTpoCt
namespace Go.Proofs.Ytncedgnpdojkkaa.tpo
open Go.RowKit dig xpt

/-! ### Plain -/
theorem mut_marks {m u v : Nat} {l : List Ar} (hv : validD (m : Int) l = true) (hu : u < m) (hvm : v < m) : mutB (m : Int) l v u = (tpo.mk (rchI m l v) u && tpo.mk (rchI m (flipL l) v) u) := by
  obtain ⟨-, -, -, hok⟩ := validD_iff.1 hv
  rw [Bool.eq_iff_iff, mut_iff hv (by omega) (by omega) (by omega) (by omega), Bool.and_eq_true, rch_iff hok hvm, rch_iff (flipL_ok hok) hvm, path_flip]
/-- The vertices whose component has a vertex ahead of k. -/
def Plc (m : Nat) (l : List Ar) (k : Nat) (P : List Bool) : Prop := ∀ u, u < m → (tpo.mk P u = true ↔ ∃ w : Nat, w < k ∧ mutB (m : Int) l w u = true)
/-- Within the round of k: j vertices are looked at. -/
def PlcI (m : Nat) (l : List Ar) (k j : Nat) (P : List Bool) : Prop := ∀ u, u < m → (tpo.mk P u = true ↔ (∃ w : Nat, w < k ∧ mutB (m : Int) l w u = true) ∨ (u < j ∧ mutB (m : Int) l k u = true))
theorem plc_start (m : Nat) (l : List Ar) : Plc m l 0 (List.replicate m false) := fun u _ => by
  rw [mk_zero]
  exact ⟨fun h => (by cases h), fun ⟨w, h, _⟩ => (by omega)⟩
theorem plc_skip {m k : Nat} {l : List Ar} {P : List Bool} (hv : validD (m : Int) l = true) (h : Plc m l k P) (hk : k < m) (hp : tpo.mk P k = true) : Plc m l (k + 1) P ∧ lead (m : Int) l (k : Int) = false := by
  obtain ⟨w, hw, hm⟩ := (h k hk).1 hp
  refine ⟨fun u hu => ?_, ?_⟩
  · rw [h u hu]
    constructor
    · rintro ⟨w, h1, h2⟩; exact ⟨w, by omega, h2⟩
    · rintro ⟨x, h1, h2⟩
      by_cases e : x = k
      · subst e; exact ⟨w, hw, mut_trans hv (by omega) (by omega) (by omega) hm h2⟩
      · exact ⟨x, by omega, h2⟩
  · rw [Bool.eq_false_iff]
    intro hl
    have := (lead_iff hv (by omega) (by omega)).1 hl (w : Int) (by omega) (by omega)
    rw [mut_turn, hm] at this; cases this
theorem plc_lead {m k : Nat} {l : List Ar} {P : List Bool} (hv : validD (m : Int) l = true) (h : Plc m l k P) (hk : k < m) (hp : tpo.mk P k = false) : lead (m : Int) l (k : Int) = true := by
  refine (lead_iff hv (by omega) (by omega)).2 fun u h0 h1 => ?_
  obtain ⟨u, rfl⟩ := Int.eq_ofNat_of_zero_le h0
  cases hm : mutB (m : Int) l (k : Int) (u : Int) with
  | false => rfl
  | true =>
    have := (h k hk).2 ⟨u, by omega, by rw [mut_turn]; exact hm⟩
    rw [hp] at this; cases this
theorem plcI_start {m k : Nat} {l : List Ar} {P : List Bool} (h : Plc m l k P) : PlcI m l k 0 P := fun u hu => by
  rw [h u hu]
  exact ⟨Or.inl, fun q => q.resolve_right (fun q => by omega)⟩
theorem plcI_no {m k j : Nat} {l : List Ar} {P : List Bool} (h : PlcI m l k j P) (hm : mutB (m : Int) l (k : Int) (j : Int) = false) : PlcI m l k (j + 1) P := fun u hu => by
  rw [h u hu]
  refine or_congr_right ⟨fun q => ⟨by omega, q.2⟩, fun q => ⟨?_, q.2⟩⟩
  rcases Nat.lt_or_ge u j with e | e
  · exact e
  · obtain rfl : u = j := by omega
    rw [hm] at q; cases q.2
theorem plcI_yes {m k j : Nat} {l : List Ar} {P : List Bool} (h : PlcI m l k j P) (hl : P.length = m) (hj : j < m) (hm : mutB (m : Int) l (k : Int) (j : Int) = true) : PlcI m l k (j + 1) (P.set j true) := fun u hu => by
  rw [mk_set _ _ _ (by omega), Bool.or_eq_true, decide_eq_true_eq, h u hu]
  constructor
  · rintro (rfl | q | q)
    · exact Or.inr ⟨by omega, hm⟩
    · exact Or.inl q
    · exact Or.inr ⟨by omega, q.2⟩
  · rintro (q | q)
    · exact Or.inr (Or.inl q)
    · by_cases e : u = j
      · exact Or.inl e
      · exact Or.inr (Or.inr ⟨by omega, q.2⟩)
theorem plcI_end {m k : Nat} {l : List Ar} {P : List Bool} (h : PlcI m l k m P) : Plc m l (k + 1) P := fun u hu => by
  rw [h u hu]
  constructor
  · rintro (⟨w, h1, h2⟩ | q)
    · exact ⟨w, by omega, h2⟩
    · exact ⟨k, by omega, q.2⟩
  · rintro ⟨w, h1, h2⟩
    by_cases e : w = k
    · subst e; exact Or.inr ⟨hu, h2⟩
    · exact Or.inl ⟨w, by omega, h2⟩

/-! ### Memory -/
/-- All blocks that there were, but one, are as they were. -/
def Off (g : Nat) (w w' : World) : Prop := w.heap.size ≤ w'.heap.size ∧ ∀ b, b < w.heap.size → b ≠ g → w'.heap[b]? = w.heap[b]?
theorem Off.refl (g : Nat) (w : World) : Off g w w := ⟨Nat.le_refl _, fun _ _ _ => rfl⟩
theorem Off.set {g o : Nat} {w w' : World} {u : Value} (h : Off g w w') : Off g w (w'.setCell ⟨g, o, none⟩ u) := by
  refine ⟨by simpa using h.1, fun b hb hn => ?_⟩
  rw [Below.heap_setCell w' ⟨g, o, none⟩ u b hn]; exact h.2 b hb hn
theorem Off.below {g : Nat} {w w1 w2 : World} (h : Off g w w1) (hb : Below w.heap.size w1 w2) : Off g w w2 :=
  ⟨Nat.le_trans h.1 hb.size, fun b hlt hn => by rw [hb.block b hlt]; exact h.2 b hlt hn⟩
theorem own_rel {w w' : World} {B e s n g : Nat} {v : Value} {xs : List Value} (h : w.ownsRow B e s v n xs) (hr : Off g w w') (hg : v.ownBlock ≠ some g) : w'.ownsRow B e s v n xs := by
  refine ⟨h.1, ?_⟩
  rcases h.2 with hn | ⟨q, cap, cur, rfl, hb, hgg, rest⟩
  · exact .inl hn
  · refine .inr ⟨q, cap, cur, rfl, hb, ?_, rest⟩
    rw [hr.2 q (Array.getElem?_eq_some_iff.1 hgg).1 (fun e => hg (by rw [← e]; rfl))]; exact hgg
theorem own_typ {w : World} {B e s n g : Nat} {v : Value} {xs : List Value} {t : TypeId} {arr : Array Value} (h : w.ownsRow B e s v n xs) (hg : dig.blk w g t arr) (ht : t ≠ e) : v.ownBlock ≠ some g := by
  rcases h.2 with ⟨rfl, _⟩ | ⟨q, cap, cur, rfl, hb, hgg, rest⟩
  · intro e; cases e
  · intro e0
    have e0 : q = g := Option.some.inj e0
    subst e0
    unfold dig.blk at hg
    rw [hg] at hgg
    injection hgg with h5
    injection h5 with _ h6 _
    exact ht h6
theorem Mrow.rel {w w' : World} {B g : Nat} {v : Value} {L : List (List Int)} {t : TypeId} {arr : Array Value} (h : Mrow w B v L) (hr : Off g w w') (hg : dig.blk w g t arr) (h1 : t ≠ 25) (h2 : t ≠ 3) : Mrow w' B v L := by
  obtain ⟨vs, q1, q2, q3, q4⟩ := h
  exact ⟨vs, q1, q2, own_rel q3 hr (own_typ q3 hg h1), fun i u x hu hx => own_rel (q4 i u x hu hx) hr (own_typ (q4 i u x hu hx) hg h2)⟩
theorem Frow.blk {α : Type} {c : α → Value} {t : TypeId} {w : World} {B g m : Nat} {L : List α} (h : Frow c t w B g m L) : ∃ arr, dig.blk w g t arr := by
  rcases h.2.2 with ⟨e, _⟩ | ⟨q, cap, cur, e, _, hg, _⟩
  · cases e
  · cases e; exact ⟨cur, hg⟩
theorem Frow.keep' {α : Type} {c : α → Value} {t : TypeId} {w w' : World} {B B2 g m : Nat} {L : List α} (h : Frow c t w B g m L) (hb : Below B2 w w') (hg : g < B2) : Frow c t w' B g m L := by
  refine ⟨h.1, h.2.1, ?_⟩
  rcases h.2.2 with hn | ⟨q, cap, cur, e, hB, hgg, rest⟩
  · exact .inl hn
  · cases e
    exact .inr ⟨_, _, cur, rfl, hB, by rw [hb.block _ hg]; exact hgg, rest⟩
theorem Frow.rel {α : Type} {c : α → Value} {t : TypeId} {w w' : World} {B g q m : Nat} {L : List α} (h : Frow c t w B g m L) (hr : Off q w w') (hg : g ≠ q) : Frow c t w' B g m L :=
  ⟨h.1, own_rel h.2 hr (fun e => hg (Option.some.inj e))⟩

set_option maxRecDepth 100000 in
set_option maxHeartbeats 8000000 in
theorem cstr_of : StrSays := by
  intro v n l R w h hr
  have hmx : Try.prog.follows .mixedOrders = true := by kernel_rfl
  obtain ⟨av, rfl, hl⟩ := id h.out
  obtain ⟨lo, lc, rfl, -, -, -⟩ := id hl
  have HB1 := Lib.hid (al1 w (.cells #[.int .i64 n, .slice lo l.length lc] 24))
  have HK1 := Lib.hid (dgb_new w n lo l.length lc 24)
  have HV := Lib.hid h.out
  obtain ⟨b, hb⟩ : ∃ b, validD n l = b := ⟨_, rfl⟩
  have hfe := hr.out
  unfold strV at hfe
  rw [hb] at hfe
  have HVD := Lib.hid hb
  have HFE := Lib.hid hfe
  obtain ⟨W1, hW1⟩ : ∃ W1, w.alloc (.cells #[.int .i64 n, .slice lo l.length lc] 24) = W1 := ⟨_, rfl⟩
  have HW1 := Lib.hid hW1
  rw [hW1] at HB1 HK1
  clear h hl hb hr hfe hW1
  go_enter Try.func18, Try.ntmps18
  go_wp2_with fail
  rw [HW1.out]
  obtain ⟨g0, hg0⟩ : ∃ g, w.heap.size = g := ⟨_, rfl⟩
  have HG0 := Lib.hid hg0
  rw [hg0] at HK1
  try simp only [hg0]
  clear hg0 HW1
  refine (cvalid_of _ n l b W1 (Lib.hid (HV.out.keep HB1.out)) HVD).mono ?_
  rintro e w2 ⟨rfl, hb2⟩
  have HB2 := Lib.hid (HB1.out.trans (hb2.mono HB1.out.size))
  have HK2 := Lib.hid (dgb_keep HK1.out hb2)
  clear hb2 HB1 HK1
  obtain ⟨c0, c1, -, -⟩ := HK2.out
  cases b
  case false =>
    have hf := HFE.out
    rw [if_neg (by decide)] at hf
    subst hf
    go_wp2
    go_ret
    exact ⟨_, rfl, Rw.nil .., FreshL.nil _ _, HB2.out⟩
  have hf := HFE.out
  rw [if_pos rfl] at hf
  obtain ⟨h0, h64, h256, hok⟩ := validD_iff.1 HVD.out
  obtain ⟨m, rfl⟩ := Int.eq_ofNat_of_zero_le h0
  simp only [Int.toNat_natCast] at hf
  have HR := Lib.hid hf
  have HOK := Lib.hid hok
  have HOF := Lib.hid (flipL_ok hok)
  have h256f : (flipL l).length ≤ 256 := by rw [flipL_len]; exact h256
  clear hf HFE hok
  go_wp2_with fail
  refine tstart (fun W : World => W.cell? ⟨g0, 0, none⟩ = some (.int .i64 (m : Int)) ∧ W.cell? ⟨g0, 1, none⟩ = some (.slice lo l.length lc)) 5 (by kernel_rfl) ⟨cell_later' (b_drew w2) c0, cell_later' (b_drew w2) c1⟩ (fun hHeld => ?_)
  have hbd := b_drew w2
  have HBD := Lib.hid (below_keep hbd HB2.out)
  have HKD := Lib.hid (dgb_keep HK2.out hbd)
  replace hHeld : (fun W : World => W.cell? ⟨g0, 0, none⟩ = some (.int .i64 (m : Int)) ∧ W.cell? ⟨g0, 1, none⟩ = some (.slice lo l.length lc)) w2.drew := hHeld
  clear hbd HB2 HK2 c0 c1
  generalize w2.drew = y0 at HBD HKD hHeld ⊢
  refine ton 0 15 (.agg #[.int .i64 (m : Int), .slice lo l.length lc]) ?_
  refine ton 2 17 (.agg #[.int .i64 (m : Int), .slice lo l.length lc]) ?_
  try simp only [List.setIfInBounds_toArray, List.set_cons_zero, List.set_cons_succ]
  refine tgo (i := 1) (by kernel_rfl) rfl (fun K hK => ?_)
  go_simp
  refine (cheads_of _ m l y0 (Lib.hid (HV.out.keep HBD.out)) HVD).mono ?_
  rintro e y1 ⟨nv, rfl, hlst, -, hb'⟩
  refine hK.out _ _ (fun _ => ⟨cell_later' hb' hHeld.1, cell_later' hb' hHeld.2⟩) (fun hHeld => ?_)
  replace hHeld := hHeld (by decide)
  clear hK K
  try simp only [List.setIfInBounds_toArray, List.set_cons_zero, List.set_cons_succ]
  have HBE := Lib.hid (below_keep hb' HBD.out)
  have HKE := Lib.hid (dgb_keep HKD.out hb')
  have HNV := Lib.hid hlst
  clear hlst hb' HBD HKD
  refine tgo (i := 3) (by kernel_rfl) rfl (fun K hK => ?_)
  go_simp
  refine (ctails_of _ m l y1 (Lib.hid (HV.out.keep HBE.out)) HVD).mono ?_
  rintro e w3 ⟨pv, rfl, hlst, -, hb'⟩
  refine hK.out _ _ (fun _ => ⟨cell_later' hb' hHeld.1, cell_later' hb' hHeld.2⟩) (fun hHeld => ?_)
  replace hHeld := hHeld (by decide)
  clear hK K
  try simp only [List.setIfInBounds_toArray, List.set_cons_zero, List.set_cons_succ]
  have HB3 := Lib.hid (below_keep hb' HBE.out)
  have HK3 := Lib.hid (dgb_keep HKE.out hb')
  have HN3 := Lib.hid (HNV.out.keep hb')
  have HP3 := Lib.hid hlst
  clear hlst hb' HBE HKE HNV
  refine ton 4 3 nv ?_
  try simp only [List.setIfInBounds_toArray, List.set_cons_zero, List.set_cons_succ]
  refine tgo (i := 5) (by kernel_rfl) rfl (fun K hK => ?_)
  go_simp
  refine hK.out _ _ (fun h => absurd rfl h) (fun hHeld => ?_)
  clear hK K hHeld
  try simp only [List.setIfInBounds_toArray, List.set_cons_zero, List.set_cons_succ]
  refine tdone (by kernel_rfl) ?_ _
  obtain ⟨c0, c1, -, -⟩ := HK3.out
  obtain ⟨i0, hi, hz0, hz1, hz2⟩ := info_of_cb
  have hg1 : g0 < w3.heap.size := World.block_lt_of_cell? w3 _ c0
  have hgw : w.heap.size ≤ g0 := by rw [HG0.out]; exact Nat.le_refl _
  obtain ⟨B, hBB⟩ : ∃ B, w3.heap.size = B := ⟨_, rfl⟩
  have HSZ : Hid (w3.heap.size = B) := Lib.hid hBB
  have hbm : i0.bytes * m ≤ 281474976710656 := by rw [hz2]; omega
  have hmm : m ≤ maxLen := by unfold maxLen; omega
  rw [hBB] at hg1
  clear hBB
  go_wp2_with (at_make; refine wpList_make_full _ rfl _ _ 38 rfl w3.heap.size 4 i0 (.bool false) 1 Try.underlying38 hi hz0 hz1 .i64 .i64 _ _ m rfl rfl rfl rfl hbm hmm (Nat.le_refl _) ?_; intro w4 hown hgrow; have hrow0 := Frow.made (c := Value.bool) rfl hown; have hb4 := (Below.refl w3.heap.size w3).grown hgrow (Nat.le_refl _) (fun q hq => by cases hq); replace c0 := cell_later' hb4 c0; replace c1 := cell_later' hb4 c1)
  have HK4 := Lib.hid (dgb_keep HK3.out hb4)
  simp only [HSZ.out] at hrow0 hb4 ⊢
  have HB4 := Lib.hid hb4
  have HROW0 := Lib.hid hrow0
  have HS4 : Hid (B ≤ w4.heap.size) := Lib.hid (by rw [← HSZ.out]; exact hgrow.size)
  clear hrow0 hb4 hown hgrow c0 c1
  go_loopw [6, 24] (fun tv iv wr => ∃ (k : Nat) (P : List Bool), iv = .int .i64 k ∧ k ≤ m ∧ Mrow wr B tv (strT (m : Int) l k) ∧ Brow wr B B m P ∧ Plc m l k P ∧ dgb wr g0 (m : Int) (.slice lo l.length lc) ∧ Below B w3 wr ∧ B ≤ wr.heap.size) (fun _ iv _ => m - (intOf iv).toNat)
  case atStart => exact ⟨0, _, rfl, Nat.zero_le _, Mrow.nil _ _, HROW0.out, plc_start m l, HK4.out, HB4.out, HS4.out⟩
  case round =>
    obtain ⟨k, P, rfl, hk, hmrow, hrow, hplc, hdg, hB, hsz⟩ := hrel
    rename World => wr
    rename_i tv _
    have HM := Lib.hid hmrow
    have HROW := Lib.hid hrow
    have HPL := Lib.hid hplc
    have HDG := Lib.hid hdg
    have HB := Lib.hid hB
    obtain ⟨ao, cap, rfl, -, -⟩ := hmrow.form
    clear hmrow hrow hplc hdg hB HROW0 HK4 HB4 HS4
    by_cases hlt : k < m
    case neg =>
      obtain rfl : k = m := by omega
      have e3 : ¬ (k : Int) < (k : Int) := by omega
      have hHR := HR.out
      subst hHR
      go_wp2
      go_ret
      exact ⟨_, rfl, HM.out.lst, fun A n c e hn => by obtain ⟨f1, f2⟩ := HM.out.fresh A n c e hn; exact ⟨by omega, fun k hk A2 n2 c2 q hn2 => by have := f2 k hk A2 n2 c2 q hn2; omega⟩, HB3.out.trans (HB.out.mono (by omega))⟩
    have e3 : (k : Int) < (m : Int) := by omega
    have i0 : (0 : Int) ≤ (k : Int) := by omega
    have hst := str_succ (m : Int) l k
    have r0 := HROW.out.at hlt
    obtain ⟨c0, c1, -, -⟩ := HDG.out
    cases hm : tpo.mk P k
    case true =>
      rw [hm] at r0
      obtain ⟨hp1, hp2⟩ := plc_skip HVD.out HPL.out hlt hm
      rw [hp2, if_neg (by decide), List.append_nil] at hst
      have HST := Lib.hid hst
      have HP := Lib.hid hp1
      clear hm hp1 hp2 hst
      go_wp2
      go_roundw
      case rel => exact ⟨k + 1, P, by go_num, by omega, by rw [HST.out]; exact HM.out, HROW.out, HP.out, HDG.out, HB.out, hsz⟩
      case measure => simp [intOf]; omega
    rw [hm] at r0
    rw [plc_lead HVD.out HPL.out hlt hm, if_pos rfl] at hst
    have HST := Lib.hid hst
    have HPI := Lib.hid (plcI_start HPL.out)
    clear hm hst HPL
    go_wp2_with fail
    refine (creached_of nv m k l wr (Lib.hid (HN3.out.keep (by rw [HSZ.out]; exact HB.out))) HOK (by omega) h256 hlt).mono ?_
    rintro e w5 ⟨ga, rfl, hra, hb5⟩
    have HB5 := Lib.hid (HB.out.trans (hb5.mono hsz))
    have HM5 := Lib.hid (HM.out.keep hb5)
    have HR5 := Lib.hid (Frow.keep HROW.out hb5)
    have HD5 := Lib.hid (dgb_keep HDG.out hb5)
    have HA5 := Lib.hid hra
    have hs5 : B ≤ w5.heap.size := Nat.le_trans hsz hb5.size
    have hga : B < ga := by
      obtain ⟨arr, hh⟩ := HROW.out.blk
      exact Nat.lt_of_lt_of_le (blk_lt hh) hra.ge
    clear hra hb5 HM HROW HDG HB c0 c1 r0
    go_wp2_with fail
    refine (creached_of pv m k (flipL l) w5 (Lib.hid (HP3.out.keep (by rw [HSZ.out]; exact HB5.out))) HOF (by omega) h256f hlt).mono ?_
    rintro e w6 ⟨gb, rfl, hrb, hb6⟩
    have HB6 := Lib.hid (HB5.out.trans (hb6.mono hs5))
    have HM6 := Lib.hid (HM5.out.keep hb6)
    have HR6 := Lib.hid (Frow.keep HR5.out hb6)
    have HD6 := Lib.hid (dgb_keep HD5.out hb6)
    have HA6 := Lib.hid (Frow.keep HA5.out hb6)
    have HC6 := Lib.hid hrb
    have hs6 : B ≤ w6.heap.size := Nat.le_trans hs5 hb6.size
    have hgb : B < gb := by
      obtain ⟨arr, hh⟩ := HR5.out.blk
      exact Nat.lt_of_lt_of_le (blk_lt hh) hrb.ge
    obtain ⟨c0, c1, -, -⟩ := HD6.out
    have HMA := Lib.hid (fun (u : Nat) (hu : u < m) => mut_marks (l := l) HVD.out hu hlt)
    clear hrb hb6 HM5 HR5 HD5 HA5 HB5
    obtain ⟨Ia, hIa⟩ : ∃ I, rchI m l k = I := ⟨_, rfl⟩
    obtain ⟨Ib, hIb⟩ : ∃ I, rchI m (flipL l) k = I := ⟨_, rfl⟩
    rw [hIa] at HA6
    rw [hIb] at HC6
    rw [hIa, hIb] at HMA
    obtain ⟨B6, hB6⟩ : ∃ B6, w6.heap.size = B6 := ⟨_, rfl⟩
    have HS6 := Lib.hid hB6
    rw [hB6] at hs6
    clear hIa hIb hB6
    go_wp2_with fail
    clear c0 c1
    go_loopw [10, 39] (fun ov iv wq => ∃ (j : Nat) (io : Option Addr) (ic : Nat) (C : List Int) (Q : List Bool), iv = .int .i64 j ∧ ov = .slice io C.length ic ∧ j ≤ m ∧ compT (m : Int) l (k : Int) j = C ∧ Irow wq B6 (.slice io C.length ic) C ∧ Brow wq B B m Q ∧ PlcI m l k j Q ∧ Off B w6 wq ∧ Below B w3 wq ∧ B6 ≤ wq.heap.size) (fun _ iv _ => m - (intOf iv).toNat)
    case atStart => exact ⟨0, none, 0, [], P, rfl, rfl, Nat.zero_le _, rfl, own_nil _ _ _ _, HR6.out, HPI.out, Off.refl _ _, HB6.out, by rw [HS6.out]; exact Nat.le_refl _⟩
    case round =>
      obtain ⟨j, io, ic, C, Q, rfl, rfl, hj, hC, hir, hrow, hpl, hoff, hB, hszq⟩ := hrel
      rename World => wq
      have hCl : C.length ≤ 64 := by rw [← hC]; have := comp_len (m : Int) l (k : Int) j; omega
      have HIQ := Lib.hid hir
      have HRQ := Lib.hid hrow
      have HPQ := Lib.hid hpl
      have HOQ := Lib.hid hoff
      have HBQ := Lib.hid hB
      have HC := Lib.hid hC
      clear hir hrow hpl hoff hB hC HPI HB6
      by_cases hjm : j < m
      case neg =>
        obtain rfl : j = m := by omega
        have e4 : ¬ (j : Int) < (j : Int) := by omega
        have HPE := Lib.hid (plcI_end HPQ.out)
        obtain ⟨arr, hbl⟩ := HR6.out.blk
        have HMQ := Lib.hid (HM6.out.rel HOQ.out hbl (by decide) (by decide))
        have hsl := str_len (j : Int) l k
        obtain ⟨X, hX⟩ : ∃ X, strT (j : Int) l k = X := ⟨_, rfl⟩
        rw [hX] at HMQ HST hsl HM6 ⊢
        have hsq : B ≤ wq.heap.size := by omega
        have HCB : Hid (Irow wq B (.slice io C.length ic) C) := Lib.hid (own_base HIQ.out hs6)
        have HDQ : Hid (dgb wq g0 (j : Int) (.slice lo l.length lc)) := Lib.hid (dgb_below HBQ.out hg1 HK3.out)
        go_wp2_with (at_builtin; refine app_ls rfl (.tmp 60) (.tmp 62) rfl B _ X io C.length ic C wq.heap.size rfl rfl rfl HMQ HCB (by omega) hsq ?_; intro ao6 cap6 w7 hM7 hgrow7; have hb7 := (Below.refl B wq).grown hgrow7 hsq (fun q hq => Mrow.lt HMQ.out q hq); have HM7 := Lib.hid hM7; have HB7 := Lib.hid (HBQ.out.trans hb7); have HR7 := Lib.hid (show Brow w7 B B j Q from ⟨HRQ.out.1, HMQ.out.far HRQ.out.2 (by decide) hgrow7⟩); have HD7 := Lib.hid (dgb_below hb7 hg1 HDQ.out); have HS7 := Lib.hid (Nat.le_trans hsq hb7.size); clear hgrow7 hb7 hM7)
        go_roundw
        case rel => exact ⟨k + 1, Q, by go_num, by omega, by rw [HST.out, show compL (j : Int) l (k : Int) = C by unfold compL; rw [Int.toNat_natCast]; exact HC.out]; exact HM7.out, HR7.out, HPE.out, HD7.out, HB7.out, HS7.out⟩
        case measure => simp [intOf]; omega
      have e4 : (j : Int) < (m : Int) := by omega
      have j0 : (0 : Int) ≤ (j : Int) := by omega
      have ra := Brow.at (Frow.rel HA6.out HOQ.out (by omega)) hjm
      have rb := Brow.at (Frow.rel HC6.out HOQ.out (by omega)) hjm
      have r0 := HRQ.out.at hjm
      have hst := comp_succ (m : Int) l (k : Int) j
      rw [HC.out] at hst
      have hmm := HMA.out j hjm
      cases hm1 : tpo.mk Ia j
      case false =>
        rw [hm1, Bool.false_and] at hmm
        rw [hm1] at ra
        rw [hmm, if_neg (by decide), List.append_nil] at hst
        have HST2 := Lib.hid hst
        have HPN := Lib.hid (plcI_no HPQ.out hmm)
        clear hst hmm hm1 rb
        go_wp2
        go_roundw
        case rel => exact ⟨j + 1, io, ic, C, Q, by go_num, rfl, by omega, HST2.out, HIQ.out, HRQ.out, HPN.out, HOQ.out, HBQ.out, hszq⟩
        case measure => simp [intOf]; omega
      rw [hm1, Bool.true_and] at hmm
      rw [hm1] at ra
      cases hm2 : tpo.mk Ib j
      case false =>
        rw [hm2] at hmm
        rw [hm2] at rb
        rw [hmm, if_neg (by decide), List.append_nil] at hst
        have HST2 := Lib.hid hst
        have HPN := Lib.hid (plcI_no HPQ.out hmm)
        clear hst hmm hm1 hm2
        go_wp2
        go_roundw
        case rel => exact ⟨j + 1, io, ic, C, Q, by go_num, rfl, by omega, HST2.out, HIQ.out, HRQ.out, HPN.out, HOQ.out, HBQ.out, hszq⟩
        case measure => simp [intOf]; omega
      rw [hm2] at hmm
      rw [hm2] at rb
      rw [hmm, if_pos rfl] at hst
      have HST2 := Lib.hid hst
      have HPN := Lib.hid (plcI_yes HPQ.out HRQ.out.1 hjm hmm)
      clear hst hmm hm1 hm2
      go_wp2_with (at_builtin; refine app_in rfl (.tmp 52) (.tmp 54) rfl B6 _ C (j : Int) wq.heap.size rfl rfl rfl HIQ (by omega) hszq ?_; intro io7 ic7 w7 hrow7 hgrow7; have hb7 := (Below.refl B6 wq).grown hgrow7 hszq (fun q hq => (World.ownsRow.lt HIQ.out q hq).1); have hr7 : Brow w7 B B m Q := HRQ.out.grown HIQ.out hgrow7 (by decide); have p7 := hr7.at hjm; have q7 := Frow.free hr7 j)
      have HI8 : Hid (Irow (w7.setCell ⟨B, j, none⟩ (.bool true)) B6 (.slice io7 (C ++ [(j : Int)]).length ic7) (C ++ [(j : Int)])) := Lib.hid (by
        have hl7 : (C ++ [(j : Int)]).length = C.length + 1 := by simp
        rw [hl7]
        obtain ⟨arr, hbl⟩ := hr7.blk
        exact own_setfar hrow7 hbl (by decide))
      have HR8 : Hid (Brow (w7.setCell ⟨B, j, none⟩ (.bool true)) B B m (Q.set j true)) := Lib.hid (Frow.put hr7 j true)
      have HO8 : Hid (Off B w6 (w7.setCell ⟨B, j, none⟩ (.bool true))) := Lib.hid (by
        have : Below w6.heap.size wq w7 := by rw [HS6.out]; exact hb7
        exact (HOQ.out.below this).set)
      have HB8 : Hid (Below B w3 (w7.setCell ⟨B, j, none⟩ (.bool true))) := Lib.hid ((HBQ.out.trans (hb7.mono hs6)).setCell (Nat.le_refl _) _)
      have HS8 : Hid (B6 ≤ (w7.setCell ⟨B, j, none⟩ (.bool true)).heap.size) := Lib.hid (by have := hb7.size; simp; omega)
      clear hrow7 hgrow7 hb7 hr7 p7 q7
      go_roundw
      case rel => exact ⟨j + 1, io7, ic7, C ++ [(j : Int)], Q.set j true, by go_num, by simp, by omega, HST2.out, HI8.out, HR8.out, HPN.out, HO8.out, HB8.out, HS8.out⟩
      case measure => simp [intOf]; omega
end Go.Proofs.Ytncedgnpdojkkaa.tpo
