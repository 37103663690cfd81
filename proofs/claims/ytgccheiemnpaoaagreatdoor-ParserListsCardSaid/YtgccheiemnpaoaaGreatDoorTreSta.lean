/-
  What statement of the reference of layer 7 returns. Condition: the lists lie in memory.
-/
import Derived.Test.YtgccheiemnpaoaaGreatDoorTreAtt
namespace Go.Proofs.YtgccheiemnpaoaaGreatDoor.tre
open Go.RowKit lex

/-- A statement with its level in a block of its own. -/
def at6 (w : World) (b : Nat) (k : Int) (x : ByteArray) (rv av bv : Value) (lv : Int) : Prop := at5 w b k x rv av bv ∧ w.cell? ⟨b, 5, none⟩ = some (.int .i64 lv)
theorem at6_new (w : World) (k : Int) (x : ByteArray) (rv av bv : Value) (lv : Int) (t : TypeId) : at6 (w.alloc (.cells #[.int .i64 k, .string x, rv, av, bv, .int .i64 lv] t)) w.heap.size k x rv av bv lv := by
  refine ⟨⟨?_, ?_, ?_, ?_, ?_⟩, ?_⟩ <;> go_simp
theorem at6_keep {w1 w2 : World} {b : Nat} {k : Int} {x : ByteArray} {rv av bv : Value} {lv : Int} (h : at6 w1 b k x rv av bv lv) (h2 : Below w1.heap.size w1 w2) : at6 w2 b k x rv av bv lv := ⟨at5_keep h.1 h2, cell_keep h2 h.2⟩
theorem all_next {l : List Pr} {k : Nat} (h : k < l.length) (h1 : (l.take k).all refB = true) (h2 : refB l[k] = true) : (l.take (k + 1)).all refB = true := by rw [take_pr h, List.all_append, h1]; simp [h2]
theorem all_bad {l : List Pr} {k : Nat} (h : k < l.length) (h2 : refB l[k] = false) : l.all refB = false := by rw [List.all_eq_false]; exact ⟨l[k], List.getElem_mem h, by rw [h2]; simp⟩
set_option maxRecDepth 100000 in
set_option maxHeartbeats 16000000 in
theorem rsta_of (s : St) (lv : Int) (rv av bv : Value) (R : Int) (w : World) (h : Hid (fvOk w ⟨s, lv, rv, av, bv⟩)) (hR : Hid (staE s lv = R)) :
    Calls Tryz.prog 18 #[.agg #[.int .i64 s.kind, .string (bb s.name), rv, av, bv, .int .i64 lv]] w fun e w' => e = .returned (.int .i64 R) ∧ Below w.heap.size w w' := by
  have hB := al1 w (.cells #[.int .i64 s.kind, .string (bb s.name), rv, av, bv, .int .i64 lv] 49)
  have h6 := at6_new w s.kind (bb s.name) rv av bv lv 49
  have hf1 : fvOk (w.alloc (.cells #[.int .i64 s.kind, .string (bb s.name), rv, av, bv, .int .i64 lv] 49)) ⟨s, 0, rv, av, bv⟩ := fvOk.keep h.out hB
  have HF1 := Lib.hid hf1
  have hnm := h.out.1
  simp only at hnm
  have hr := hR.out
  unfold staE at hr
  obtain ⟨E1, hE1⟩ : ∃ q, fldE s = q := ⟨_, rfl⟩
  have HE1 := Lib.hid hE1
  rw [hE1] at hr
  have hrv := h.out.2.1
  simp only at hrv
  obtain ⟨ro, rc, hrve, hrl1, hrl2, _⟩ := id hrv
  unfold maxLen at hrl2
  have hrlen : s.refs.length ≤ 9223372036854775807 := by omega
  clear hrl1 hrl2
  have HRL := Lib.hid hrve
  clear h hR hE1 hf1 hrv hrve
  by_cases g1 : E1 ≠ 0
  · rw [if_pos g1] at hr
    subst hr
    have b1 : (E1 != 0) = true := by simp [g1]
    obtain ⟨⟨c0, c1, c2, c3, c4⟩, c5⟩ := h6
    clear g1
    go_enter Tryz.func18, Tryz.ntmps18
    go_wp2_with (go_at_call 29; refine (rfld_of s rv av bv E1 _ HF1 HE1).mono ?_; rintro e w2 ⟨rfl, hb2⟩)
    go_ret
    exact ⟨rfl, below_keep hb2 hB⟩
  rw [if_neg g1] at hr
  obtain rfl : E1 = 0 := by simpa using g1
  clear g1
  have f5 : (s.kind == 5) = decide (s.kind = 5) := by rw [Bool.eq_iff_iff]; simp
  have f2 : (s.kind != 2) = decide (s.kind ≠ 2) := by rw [Bool.eq_iff_iff]; simp
  have f3 : (s.kind != 3) = decide (s.kind ≠ 3) := by rw [Bool.eq_iff_iff]; simp
  have HZ := Lib.hid (show (bb s.name).size ≤ maxLen by rw [← b_size]; exact hnm)
  obtain ⟨nm, hnmv⟩ : ∃ q, isNm s.name = q := ⟨_, rfl⟩
  have HNM : Hid (isNm (bb s.name).data.toList = nm) := Lib.hid hnmv
  rw [hnmv] at hr
  by_cases g2 : s.kind = 5 ∧ 6 ≤ lv
  · rw [if_pos g2] at hr
    subst hr
    rw [decide_eq_true g2.1] at f5
    have l6 := g2.2
    have d6 : decide (6 ≤ lv) = true := decide_eq_true l6
    clear g2 f2 f3 hnmv hnm
    obtain ⟨⟨c0, c1, c2, c3, c4⟩, c5⟩ := h6
    go_enter Tryz.func18, Tryz.ntmps18
    go_wp2_with fail
    refine (rfld_of s rv av bv 0 _ HF1 HE1).mono ?_
    rintro e w2 ⟨rfl, hb2⟩
    have c0 := cell_keep hb2 c0
    have c5 := cell_keep hb2 c5
    go_wp2
    go_ret
    exact ⟨rfl, below_keep hb2 hB⟩
  rw [if_neg g2] at hr
  by_cases g3 : s.kind ≠ 2 ∧ s.kind ≠ 3 ∧ nm = false
  · obtain ⟨g3a, g3b, rfl⟩ := g3
    rw [if_pos ⟨g3a, g3b, rfl⟩] at hr
    subst hr
    rw [decide_eq_true g3a] at f2
    rw [decide_eq_true g3b] at f3
    have hw5 : ((s.kind == 5) = false) ∨ ((s.kind == 5) = true ∧ decide (6 ≤ lv) = false) := by
      by_cases k5 : s.kind = 5
      · exact Or.inr ⟨by rw [beq_iff_eq]; exact k5, decide_eq_false (fun q => g2 ⟨k5, q⟩)⟩
      · exact Or.inl (by rw [beq_eq_false_iff_ne]; exact k5)
    clear g2 g3a g3b hnmv hnm f5
    obtain ⟨⟨c0, c1, c2, c3, c4⟩, c5⟩ := h6
    rcases hw5 with f5 | ⟨f5, d6⟩
    all_goals
      go_enter Tryz.func18, Tryz.ntmps18
      go_wp2_with fail
      refine (rfld_of s rv av bv 0 _ HF1 HE1).mono ?_
      rintro e w2 ⟨rfl, hb2⟩
      have c0 := cell_keep hb2 c0
      have c1 := cell_keep hb2 c1
      have c5 := cell_keep hb2 c5
      go_wp2_with (go_at_call 16; refine (rnm_of _ _ _ HZ.out HNM).mono ?_; rintro e w' ⟨rfl, rfl⟩)
      go_ret
      exact ⟨rfl, below_keep hb2 hB⟩
  rw [if_neg g3] at hr
  have hway : ((s.kind == 5) = false ∧ (s.kind != 2) = true ∧ (s.kind != 3) = true ∧ nm = true) ∨ ((s.kind == 5) = false ∧ (s.kind != 2) = false) ∨ ((s.kind == 5) = false ∧ (s.kind != 2) = true ∧ (s.kind != 3) = false) ∨ ((s.kind == 5) = true ∧ decide (6 ≤ lv) = false ∧ (s.kind != 2) = true ∧ (s.kind != 3) = true ∧ nm = true) := by
    have hn : s.kind ≠ 2 → s.kind ≠ 3 → nm = true := fun a b => by
      cases nm
      · exact absurd ⟨a, b, rfl⟩ g3
      · rfl
    by_cases k5 : s.kind = 5
    · have d6 : decide (6 ≤ lv) = false := decide_eq_false (fun q => g2 ⟨k5, q⟩)
      rw [f5, f2, f3, decide_eq_true k5, decide_eq_true (show s.kind ≠ 2 by omega), decide_eq_true (show s.kind ≠ 3 by omega)]
      exact Or.inr (Or.inr (Or.inr ⟨rfl, d6, rfl, rfl, hn (by omega) (by omega)⟩))
    · rw [f5, f2, f3, decide_eq_false k5]
      by_cases k2 : s.kind = 2
      · exact Or.inr (Or.inl ⟨rfl, decide_eq_false (fun q => q k2)⟩)
      · by_cases k3 : s.kind = 3
        · exact Or.inr (Or.inr (Or.inl ⟨rfl, decide_eq_true k2, decide_eq_false (fun q => q k3)⟩))
        · exact Or.inl ⟨rfl, decide_eq_true k2, decide_eq_true k3, hn k2 k3⟩
  have HR := Lib.hid hr
  have HRV := Lib.hid HF1.out.2.1
  clear hr f5 f2 f3 g2 g3 hnmv hnm
  have hend : Hid (s.refs.all refB = true → attE s = R) := Lib.hid (fun q => by have := HR.out; rw [if_neg (by rw [q]; simp)] at this; exact this)
  have hbad : Hid (s.refs.all refB = false → R = 5) := Lib.hid (fun q => by have := HR.out; rw [if_pos q] at this; exact this.symm)
  clear HR
  simp only at HRV
  obtain ⟨r, hre⟩ : ∃ r, s.refs = r := ⟨_, rfl⟩
  rw [hre] at HRV hend hbad HRL hrlen
  clear hre
  obtain rfl := HRL.out
  rcases hway with ⟨f5, f2, f3, rfl⟩ | ⟨f5, f2⟩ | ⟨f5, f2, f3⟩ | ⟨f5, d6, f2, f3, rfl⟩
  all_goals
    obtain ⟨⟨c0, c1, c2, c3, c4⟩, c5⟩ := id h6
    go_enter Tryz.func18, Tryz.ntmps18
    go_wp2_with fail
    refine (rfld_of s _ av bv 0 _ HF1 HE1).mono ?_
    rintro e w2 ⟨rfl, hb2⟩
    have g6 := at6_keep h6 hb2
    clear c0 c1 c2 c3 c4 c5
    obtain ⟨⟨c0, c1, c2, c3, c4⟩, c5⟩ := id g6
    go_wp2_with (go_at_call 16; refine (rnm_of _ _ _ HZ.out HNM).mono ?_; rintro e w' ⟨rfl, rfl⟩)
    clear c0 c1 c2 c3 c4 c5
    have hB2 := below_keep hb2 hB
    have HRV2 := Lib.hid (HRV.out.keep hb2)
    have HF2 := Lib.hid (HF1.out.keep hb2)
    clear hb2
    go_loopw [4] (fun iv wr => ∃ k : Nat, k ≤ r.length ∧ iv = .int .i64 k ∧ (r.take k).all refB = true ∧ Below w2.heap.size w2 wr) (fun iv _ => r.length - (intOf iv).toNat)
    case atStart => exact ⟨0, Nat.zero_le _, rfl, rfl, Below.refl _ _⟩
    case round =>
      obtain ⟨k, hk, rfl, hall, hBr⟩ := hrel
      rename World => wr
      have HALL := Lib.hid hall
      obtain ⟨⟨c0, c1, c2, c3, c4⟩, c5⟩ := at6_keep g6 hBr
      clear hall
      by_cases hlt : k < r.length
      · obtain ⟨A, rfl, p0, p1, z2, z3⟩ := (HRV2.out.keep hBr).get hlt
        obtain ⟨x, hxe⟩ : ∃ x, r[k] = x := ⟨_, rfl⟩
        rw [hxe] at p0 p1 z2 z3
        obtain ⟨X1, hX1⟩ : ∃ Y, bb x.1 = Y := ⟨_, rfl⟩
        obtain ⟨X2, hX2⟩ : ∃ Y, bb x.2 = Y := ⟨_, rfl⟩
        have d1 : X1.data.toList = x.1 := by rw [← hX1]
        have d2 : X2.data.toList = x.2 := by rw [← hX2]
        have HS1 := Lib.hid (show X1.size ≤ maxLen by rw [← b_size, d1]; exact z2)
        have HS2 := Lib.hid (show X2.size ≤ maxLen by rw [← b_size, d2]; exact z3)
        rw [hX1] at p0
        rw [hX2] at p1
        have hBq := below_keep (al1 wr (.cells #[.string X1, .string X2] 51)) hBr
        obtain ⟨v0, v1⟩ := at2_str wr X1 X2 51
        obtain ⟨n1, hn1⟩ : ∃ b, isNm x.1 = b := ⟨_, rfl⟩
        obtain ⟨n2, hn2⟩ : ∃ b, isNm x.2 = b := ⟨_, rfl⟩
        obtain ⟨m2, hm2⟩ : ∃ b, x.2.isEmpty = b := ⟨_, rfl⟩
        have HN1 : Hid (isNm X1.data.toList = n1) := Lib.hid (by rw [d1]; exact hn1)
        have HN2 : Hid (isNm X2.data.toList = n2) := Lib.hid (by rw [d2]; exact hn2)
        have he2 : X2.toList.isEmpty = m2 := by rw [ByteArray.toList_eq, d2]; exact hm2
        have HRB : Hid (refB r[k] = (n1 && (m2 || n2))) := Lib.hid (by rw [hxe]; unfold refB; rw [hn1, hn2, hm2])
        have i0 : (0 : Int) ≤ (k : Int) := by omega
        have i1 : (k : Int) < (r.length : Int) := by omega
        clear hX1 hX2 hn1 hn2 hm2 d1 d2 z2 z3 hxe
        have hw : n1 = false ∨ (n1 = true ∧ m2 = true) ∨ (n1 = true ∧ m2 = false ∧ n2 = true) ∨ (n1 = true ∧ m2 = false ∧ n2 = false) := by cases n1 <;> cases m2 <;> cases n2 <;> simp
        rcases hw with rfl | ⟨rfl, rfl⟩ | ⟨rfl, rfl, rfl⟩ | ⟨rfl, rfl, rfl⟩
        · have HN := Lib.hid (hbad.out (all_bad hlt HRB.out))
          obtain rfl := HN.out
          go_wp2_with (go_at_call 16; refine (rnm_of _ _ _ HS1.out HN1).mono ?_; rintro e w' ⟨rfl, rfl⟩)
          go_ret
          exact ⟨rfl, below_keep hBq hB2⟩
        · have HN := Lib.hid (all_next hlt HALL.out HRB.out)
          go_wp2_with (go_at_call 16; refine (rnm_of _ _ _ HS1.out HN1).mono ?_; rintro e w' ⟨rfl, rfl⟩)
          go_roundw
          case rel => exact ⟨k + 1, by omega, by go_num, HN.out, hBq⟩
          case measure => simp [intOf]; omega
        · have HN := Lib.hid (all_next hlt HALL.out HRB.out)
          go_wp2_with (first | (go_at_call 16; (with_reducible refine (rnm_of _ _ _ HS1.out HN1).mono ?_); rintro e w' ⟨rfl, rfl⟩) | (go_at_call 16; (with_reducible refine (rnm_of _ _ _ HS2.out HN2).mono ?_); rintro e w' ⟨rfl, rfl⟩))
          go_roundw
          case rel => exact ⟨k + 1, by omega, by go_num, HN.out, hBq⟩
          case measure => simp [intOf]; omega
        · have HN := Lib.hid (hbad.out (all_bad hlt HRB.out))
          obtain rfl := HN.out
          go_wp2_with (first | (go_at_call 16; (with_reducible refine (rnm_of _ _ _ HS1.out HN1).mono ?_); rintro e w' ⟨rfl, rfl⟩) | (go_at_call 16; (with_reducible refine (rnm_of _ _ _ HS2.out HN2).mono ?_); rintro e w' ⟨rfl, rfl⟩))
          go_ret
          exact ⟨rfl, below_keep hBq hB2⟩
      · obtain rfl : k = r.length := by omega
        have HE : Hid (attE s = R) := Lib.hid (hend.out (by have := HALL.out; rw [List.take_length] at this; exact this))
        have HFr := Lib.hid (HF2.out.keep hBr)
        go_wp2_with (go_at_call 30; refine (ratt_of s _ av bv R _ HFr HE).mono ?_; rintro e w3 ⟨rfl, hb3⟩)
        go_ret
        exact ⟨rfl, below_keep hb3 (below_keep hBr hB2)⟩
end Go.Proofs.YtgccheiemnpaoaaGreatDoor.tre
