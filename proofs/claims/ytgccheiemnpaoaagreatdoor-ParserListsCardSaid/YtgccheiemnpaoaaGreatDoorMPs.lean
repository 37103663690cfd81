/-
  awake of the statements of layer 9 answers true. Premise: the code answers as its plain functions say.
  What SameAttrs, SameStmts, Same and One of the reference of layer 9 return where both sides are the same list or tree. Conditions: lists and trees in memory.
-/
import Derived.Test.YtgccheiemnpaoaaGreatDoorMPo
import Derived.Test.YtgccheiemnpaoaaGreatDoorTreAtt
import Derived.Test.YtgccheiemnpaoaaGreatDoorMTv
import Derived.Test.YtgccheiemnpaoaaGreatDoorTreSta
import Derived.Test.YtgccheiemnpaoaaGreatDoorMTn
namespace Go.Proofs.YtgccheiemnpaoaaGreatDoor.par
open Go.RowKit lex tre prt

set_option maxRecDepth 100000 in
set_option maxHeartbeats 4000000 in
theorem awk9 (C : ParOk) (w : World) (Htb : Hid (Tab w)) : Calls Tryz.prog 8 #[] w fun e w' => e = .returned (.bool true) ∧ Below w.heap.size w w' := by
  have hmx : Tryz.prog.follows .mixedOrders = true := by kernel_rfl
  go_enter Tryz.func8, Tryz.ntmps8
  go_wp2_with fail
  refine (C.parse _ exT1 0 0 _ (by decide) (Lib.hid (by first | exact Htb.out | exact tab_below Htb.out (by assumption) | exact tab_below (tab_below Htb.out (by assumption)) (al1 _ _) | exact tab_below Htb.out (al1 _ _))) (Lib.hid ex_one)).mono ?_
  rintro e w1 ⟨v, rfl, hT, hb1⟩
  obtain ⟨bv, rfl, -, hs⟩ : ∃ bv, v = .agg #[.string ⟨#[103]⟩, .bool true, bv] ∧ exT1.name.length ≤ maxLen ∧ Sts w1 bv exT1.body := hT
  obtain ⟨ao, cap, rfl⟩ : ∃ ao cap, bv = .slice ao 1 cap := by obtain ⟨ao, cap, e, _⟩ := hs; exact ⟨ao, cap, e⟩
  obtain ⟨A, rfl, hst⟩ := hs.get (k := 0) (by decide)
  obtain ⟨a0, -, -, ⟨rv, a2, rx⟩, -, -⟩ := (stAt_eq _ _ _).1 hst
  obtain ⟨ro, rc, rfl⟩ : ∃ ao cap, rv = .slice ao 3 cap := by obtain ⟨ao, cap, e, _⟩ := rx; exact ⟨ao, cap, e⟩
  obtain ⟨R, rfl, -, q1, -, -⟩ := rx.get (k := 0) (by decide)
  have eA : A.add (0 * 5) = A := by unfold Addr.add; rfl
  have eR : R.add (0 * 2) = R := by unfold Addr.add; rfl
  rw [eA] at a0 a2
  have k0 : w1.cell? A = some (.int .i64 2) := a0
  have k2 : w1.cell? ⟨A.block, A.off + 2, none⟩ = some (.slice (some R) 3 rc) := a2
  have k3 : w1.cell? ⟨R.block, R.off + 1, none⟩ = some (.string ⟨#[112]⟩) := q1
  have HB1 := below_keep (al1 w1 (.cells #[.string ⟨#[103]⟩, .bool true, .slice (some A) 1 cap] 24)) hb1
  obtain ⟨c0, c1, c2⟩ := at3_new w1 ⟨#[103]⟩ true (.slice (some A) 1 cap) 24
  have m0 := cell_later' (al1 w1 (.cells #[.string ⟨#[103]⟩, .bool true, .slice (some A) 1 cap] 24)) k0
  have m2 := cell_later' (al1 w1 (.cells #[.string ⟨#[103]⟩, .bool true, .slice (some A) 1 cap] 24)) k2
  have m3 := cell_later' (al1 w1 (.cells #[.string ⟨#[103]⟩, .bool true, .slice (some A) 1 cap] 24)) k3
  clear hst rx a0 a2 q1 hs hb1 eA eR k0 k2 k3
  go_wp2_with fail
  refine (C.parse _ T00 1 4 _ (by decide) (Lib.hid (by first | exact Htb.out | exact tab_below Htb.out (by assumption) | exact tab_below (tab_below Htb.out (by assumption)) (al1 _ _) | exact tab_below Htb.out (al1 _ _))) (Lib.hid ex_two)).mono ?_
  rintro e w2 ⟨v, rfl, hT, hb2⟩
  obtain ⟨bv, rfl, -, hs⟩ : ∃ bv, v = .agg #[.string ⟨#[]⟩, .bool false, bv] ∧ T00.name.length ≤ maxLen ∧ Sts w2 bv T00.body := hT
  obtain ⟨ao2, cap2, rfl⟩ : ∃ ao cap, bv = .slice ao 0 cap := by obtain ⟨ao, cap, e, _⟩ := hs; exact ⟨ao, cap, e⟩
  clear hs
  have HB2 := below_keep (al1 w2 (.cells #[.string ⟨#[]⟩, .bool false, .slice ao2 0 cap2] 24)) (below_keep hb2 HB1)
  have hb3 := below_keep (al1 w2 (.cells #[.string ⟨#[]⟩, .bool false, .slice ao2 0 cap2] 24)) hb2
  have c0 := cell_later' hb3 c0
  have c1 := cell_later' hb3 c1
  have c2 := cell_later' hb3 c2
  have m0 := cell_later' hb3 m0
  have m2 := cell_later' hb3 m2
  have m3 := cell_later' hb3 m3
  clear hb2 hb3 HB1
  go_wp2
  go_ret
  exact ⟨ret_bool (by simp), HB2⟩
end Go.Proofs.YtgccheiemnpaoaaGreatDoor.par
namespace Go.Proofs.YtgccheiemnpaoaaGreatDoor.par
open Go.RowKit lex tre

set_option maxRecDepth 100000 in
set_option maxHeartbeats 4000000 in
theorem sats_of (v v' : Value) (l : List Pr) (w : World) (h1 : Hid (Prs w v l)) (h2 : Hid (Prs w v' l)) :
    Calls Tryz.prog 15 #[v, v'] w fun e w' => e = .returned (.bool true) ∧ Below w.heap.size w w' := by
  have hmx : Tryz.prog.follows .mixedOrders = true := by kernel_rfl
  obtain ⟨ao, cap, rfl, hc1, hm1, _⟩ := id h1.out
  obtain ⟨bo, cbp, rfl, hc2, hm2, _⟩ := id h2.out
  unfold maxLen at hm1 hm2
  have hlm : l.length ≤ 9223372036854775807 := by omega
  have b0 : ((l.length : Int) != (l.length : Int)) = false := by simp
  have hga := guard_att
  clear hc1 hm1 hc2 hm2
  go_enter Tryz.func15, Tryz.ntmps15
  go_wp2_with fail
  go_loopw [5] (fun iv wr => ∃ k : Nat, iv = .int .i64 k ∧ k ≤ l.length ∧ Below w.heap.size w wr) (fun iv _ => l.length - (intOf iv).toNat)
  case atStart => exact ⟨0, rfl, Nat.zero_le _, Below.refl _ _⟩
  case round =>
    obtain ⟨k, rfl, hk, hB⟩ := hrel
    rename World => wr
    by_cases hlt : k < l.length
    · obtain ⟨A, rfl, q0, q1, -, -⟩ := (h1.out.keep hB).get hlt
      obtain ⟨B, rfl, p0, p1, -, -⟩ := (h2.out.keep hB).get hlt
      obtain ⟨u, hu⟩ : ∃ u, l[k] = u := ⟨_, rfl⟩
      rw [hu] at q0 q1 p0 p1
      have i0 : (0 : Int) ≤ (k : Int) := by omega
      have i1 : (k : Int) < (l.length : Int) := by omega
      have hneq := neq_att u u false (Lib.hid (by simp))
      clear hu
      go_wp2_with fail
      go_quiet (fail)
      have hB7 := below_keep (below_drewT wr nq) hB
      generalize wr.drewN nq = wn at hB7 ⊢
      go_wp2
      go_roundw
      case rel => exact ⟨k + 1, by go_num, by omega, hB7⟩
      case measure => simp [intOf]; omega
    · obtain rfl : k = l.length := by omega
      go_wp2
      go_ret
      exact ⟨rfl, hB⟩
def SmOk (l : List St) : Prop := ∀ (w : World) (v1 v2 : Value), Sts w v1 l → Sts w v2 l →
  Calls Tryz.prog 25 #[v1, v2] w fun e w' => e = .returned (.bool true) ∧ Below w.heap.size w w'
set_option maxRecDepth 100000 in
set_option maxHeartbeats 8000000 in
theorem same_step (l : List St) (ih : ∀ s ∈ l, SmOk s.body) : SmOk l := by
  intro w v1 v2 h1 h2
  have hmx : Tryz.prog.follows .mixedOrders = true := by kernel_rfl
  obtain ⟨ao, cap, rfl, hc1, hm1, _⟩ := id h1
  obtain ⟨bo, cbp, rfl, hc2, hm2, _⟩ := id h2
  have H1 := Lib.hid h1
  have H2 := Lib.hid h2
  have IH := Lib.hid ih
  unfold maxLen at hm1 hm2
  have hlm : l.length ≤ 9223372036854775807 := by omega
  have b0 : ((l.length : Int) != (l.length : Int)) = false := by simp
  clear hc1 hm1 hc2 hm2 h1 h2 ih
  go_enter Tryz.func25, Tryz.ntmps25
  go_wp2_with fail
  go_loopw [5] (fun iv wr => ∃ k : Nat, iv = .int .i64 k ∧ k ≤ l.length ∧ Below w.heap.size w wr) (fun iv _ => l.length - (intOf iv).toNat)
  case atStart => exact ⟨0, rfl, Nat.zero_le _, Below.refl _ _⟩
  case round =>
    obtain ⟨k, rfl, hk, hB⟩ := hrel
    rename World => wr
    by_cases hlt : k < l.length
    · obtain ⟨A, rfl, ha0⟩ := (H1.out.keep hB).get hlt
      obtain ⟨B, rfl, hb0⟩ := (H2.out.keep hB).get hlt
      obtain ⟨a0, a1, -, ⟨_, a2, rx⟩, ⟨_, a3, sx⟩, _, a4, bx⟩ := (stAt_eq _ _ _).1 ha0
      obtain ⟨b0, b1, -, ⟨_, b2, ry⟩, ⟨_, b3, sy⟩, _, b4, by'⟩ := (stAt_eq _ _ _).1 hb0
      have hih := IH.out _ (List.getElem_mem hlt)
      obtain ⟨x, hx⟩ : ∃ x, l[k] = x := ⟨_, rfl⟩
      rw [hx] at a0 a1 rx sx bx hih b0 b1 ry sy by'
      have RX := Lib.hid rx
      have RY := Lib.hid ry
      have SX := Lib.hid sx
      have SY := Lib.hid sy
      have BX := Lib.hid bx
      have BY := Lib.hid by'
      have HIH := Lib.hid hih
      obtain ⟨xro, xrc, rfl, xr1, xr2, _⟩ := rx
      obtain ⟨yro, yrc, rfl, _, _, _⟩ := ry
      obtain ⟨xso, xsc, rfl, xs1, xs2, _⟩ := sx
      obtain ⟨yso, ysc, rfl, _, _, _⟩ := sy
      obtain ⟨xbo, xbc, rfl, _, _, _⟩ := bx
      obtain ⟨ybo, ybc, rfl, _, _, _⟩ := by'
      unfold maxLen at xr2 xs2
      have xrl : x.refs.length ≤ 9223372036854775807 := by omega
      clear xr1 xr2 xs1 xs2
      have i0 : (0 : Int) ≤ (k : Int) := by omega
      have i1 : (k : Int) < (l.length : Int) := by omega
      clear hx ha0 hb0 hih
      go_wp2_with fail
      go_cut [6, 7] (fun s s' wx => EqCut wr x.kind (bb x.name) (.slice xro x.refs.length xrc) (.slice xso x.attrs.length xsc) (.slice xbo x.body.length xbc) x.kind (bb x.name) (.slice yro x.refs.length yrc) (.slice yso x.attrs.length ysc) (.slice ybo x.body.length ybc) s s' wx)
      case first =>
        have hP0 : Below wr.heap.size wr wr ∧ wr.cell? (A.add (k * 5)) = some (.int .i64 x.kind) ∧ wr.cell? ⟨(A.add (k * 5)).block, (A.add (k * 5)).off + 1, none⟩ = some (.string (bb x.name)) ∧ wr.cell? ⟨(A.add (k * 5)).block, (A.add (k * 5)).off + 2, none⟩ = some (.slice xro x.refs.length xrc) ∧ wr.cell? ⟨(A.add (k * 5)).block, (A.add (k * 5)).off + 3, none⟩ = some (.slice xso x.attrs.length xsc) ∧ wr.cell? ⟨(A.add (k * 5)).block, (A.add (k * 5)).off + 4, none⟩ = some (.slice xbo x.body.length xbc) ∧ wr.cell? (B.add (k * 5)) = some (.int .i64 x.kind) ∧ wr.cell? ⟨(B.add (k * 5)).block, (B.add (k * 5)).off + 1, none⟩ = some (.string (bb x.name)) ∧ wr.cell? ⟨(B.add (k * 5)).block, (B.add (k * 5)).off + 2, none⟩ = some (.slice yro x.refs.length yrc) ∧ wr.cell? ⟨(B.add (k * 5)).block, (B.add (k * 5)).off + 3, none⟩ = some (.slice yso x.attrs.length ysc) ∧ wr.cell? ⟨(B.add (k * 5)).block, (B.add (k * 5)).off + 4, none⟩ = some (.slice ybo x.body.length ybc) := ⟨Below.refl _ _, a0, a1, a2, a3, a4, b0, b1, b2, b3, b4⟩
        go_region_held3 (fun w' => Below wr.heap.size wr w' ∧ w'.cell? (A.add (k * 5)) = some (.int .i64 x.kind) ∧ w'.cell? ⟨(A.add (k * 5)).block, (A.add (k * 5)).off + 1, none⟩ = some (.string (bb x.name)) ∧ w'.cell? ⟨(A.add (k * 5)).block, (A.add (k * 5)).off + 2, none⟩ = some (.slice xro x.refs.length xrc) ∧ w'.cell? ⟨(A.add (k * 5)).block, (A.add (k * 5)).off + 3, none⟩ = some (.slice xso x.attrs.length xsc) ∧ w'.cell? ⟨(A.add (k * 5)).block, (A.add (k * 5)).off + 4, none⟩ = some (.slice xbo x.body.length xbc) ∧ w'.cell? (B.add (k * 5)) = some (.int .i64 x.kind) ∧ w'.cell? ⟨(B.add (k * 5)).block, (B.add (k * 5)).off + 1, none⟩ = some (.string (bb x.name)) ∧ w'.cell? ⟨(B.add (k * 5)).block, (B.add (k * 5)).off + 2, none⟩ = some (.slice yro x.refs.length yrc) ∧ w'.cell? ⟨(B.add (k * 5)).block, (B.add (k * 5)).off + 3, none⟩ = some (.slice yso x.attrs.length ysc) ∧ w'.cell? ⟨(B.add (k * 5)).block, (B.add (k * 5)).off + 4, none⟩ = some (.slice ybo x.body.length ybc))
          (exact ks a0 a1 a2 a3 a4 b0 b1 b2 b3 b4 (by repeat (first | (with_reducible assumption) | (with_reducible exact Below.refl _ _) | (with_reducible refine b_drew ?_) | (with_reducible refine b_alloc ?_) | (with_reducible refine b_set ?_ ?_) | omega)))
          (fail)
        all_goals
          go_split_ands
          go_wp2_with fail
          go_meet
          refine ⟨_, _, rfl, rfl, ?_, ?_, b_drew (b_alloc (b_alloc (Below.refl _ _)))⟩
          all_goals (first | exact heap_alloc2_old _ _ _ | exact heap_alloc2_new _ _ _)
      case rest =>
        obtain ⟨bx, by2, rfl, rfl, s1, s2, hBc⟩ := hcut
        rename World => wc
        have hBw := below_keep hBc hB
        clear a0 a1 a2 a3 a4 b0 b1 b2 b3 b4
        have g1 := s1.at5
        have g2 := s2.at5
        clear s1 s2

        obtain ⟨X, hX⟩ : ∃ X, bb x.name = X := ⟨_, rfl⟩
        rw [hX] at g1 g2
        clear hX
        obtain ⟨c0, c1, c2, c3, c4⟩ := id g1
        obtain ⟨e0, e1, e2, e3, e4⟩ := id g2
        have dk : (x.kind != x.kind) = false := by simp
        have dr : ((x.refs.length : Int) != (x.refs.length : Int)) = false := by simp
        go_wp2_with fail
        refine (sats_of _ _ x.attrs _ (Lib.hid (SX.out.keep hBc)) (Lib.hid (SY.out.keep hBc))).mono ?_
        rintro e w4 ⟨rfl, hb4⟩
        clear c0 c1 c2 c3 c4 e0 e1 e2 e3 e4
        have g1 := at5_keep g1 hb4
        have g2 := at5_keep g2 hb4
        have hBw := below_keep hb4 hBw
        have hBc := below_keep hb4 hBc
        clear hb4
        obtain ⟨c0, c1, c2, c3, c4⟩ := id g1
        obtain ⟨e0, e1, e2, e3, e4⟩ := id g2
        go_wp2_with fail
        refine (HIH.out _ _ _ (BX.out.keep hBc) (BY.out.keep hBc)).mono ?_
        rintro e w5 ⟨rfl, hb5⟩
        clear c0 c1 c2 c3 c4 e0 e1 e2 e3 e4
        have g1 := at5_keep g1 hb5
        have g2 := at5_keep g2 hb5
        have hB5 := below_keep hb5 hBw
        have hBr5 := below_keep hb5 hBc
        have RX5 := Lib.hid (RX.out.keep hBr5)
        have RY5 := Lib.hid (RY.out.keep hBr5)
        clear hb5
        have hgr := guard_ref
        go_wp2_with fail
        go_loopw [8] (fun jv wz => ∃ j : Nat, j ≤ x.refs.length ∧ jv = .int .i64 j ∧ Below w5.heap.size w5 wz) (fun jv _ => x.refs.length - (intOf jv).toNat)
        case atStart => exact ⟨0, Nat.zero_le _, rfl, Below.refl _ _⟩
        case round =>
          obtain ⟨j, hj, rfl, hBz⟩ := hrel
          rename World => wz
          obtain ⟨c0, c1, c2, c3, c4⟩ := at5_keep g1 hBz
          obtain ⟨e0, e1, e2, e3, e4⟩ := at5_keep g2 hBz
          by_cases hjl : j < x.refs.length
          · obtain ⟨A2, rfl, q0, q1, -, -⟩ := (RX5.out.keep hBz).get hjl
            obtain ⟨B2, rfl, p0, p1, -, -⟩ := (RY5.out.keep hBz).get hjl
            obtain ⟨u, hu⟩ : ∃ u, x.refs[j] = u := ⟨_, rfl⟩
            rw [hu] at q0 q1 p0 p1
            have j0 : (0 : Int) ≤ (j : Int) := by omega
            have j1 : (j : Int) < (x.refs.length : Int) := by omega
            have hneq := neq_ref u u false (Lib.hid (by simp))
            clear hu
            go_wp2_with fail
            go_quiet (fail)
            have hB7 := below_keep (below_drewT wz nq) hBz
            generalize wz.drewN nq = wn at hB7 ⊢
            go_wp2
            go_roundw
            case rel => exact ⟨j + 1, by omega, by go_num, hB7⟩
            case measure => simp [intOf]; omega
          · obtain rfl : j = x.refs.length := by omega
            go_wp2
            go_roundw
            case rel => exact ⟨k + 1, by go_num, by omega, below_keep hBz hB5⟩
            case measure => simp [intOf]; omega
    · obtain rfl : k = l.length := by omega
      go_wp2
      go_ret
      exact ⟨rfl, hB⟩
theorem same_ok (l : List St) : SmOk l := lst_ind same_step l
set_option maxRecDepth 100000 in
set_option maxHeartbeats 8000000 in
theorem same_of (v v' : Value) (T : Tr) (w : World) (hS : Hid (TrV w v T)) (hT : Hid (TrV w v' T)) :
    Calls Tryz.prog 11 #[v, v'] w fun e w' => e = .returned (.bool true) ∧ Below w.heap.size w w' := by
  obtain ⟨bv, rfl, -, hs⟩ := hS.out
  obtain ⟨bv', rfl, -, ht⟩ := hT.out
  obtain ⟨X, hX⟩ : ∃ X, bb T.name = X := ⟨_, rfl⟩
  obtain ⟨d, hd⟩ : ∃ d, T.dir = d := ⟨_, rfl⟩
  rw [hX, hd]
  have hB1 := al1 w (.cells #[.string X, .bool d, bv] 24)
  have hB := hB1.alloc (by simp) (.cells #[.string X, .bool d, bv'] 24)
  have HS := Lib.hid (hs.keep hB)
  have HT := Lib.hid (ht.keep hB)
  have hc0 := at3_keep (at3_new w X d bv 24) (al1 (w.alloc (.cells #[.string X, .bool d, bv] 24)) (.cells #[.string X, .bool d, bv'] 24))
  have hc1 := at3_new (w.alloc (.cells #[.string X, .bool d, bv] 24)) X d bv' 24
  rw [World.size_alloc] at hc1
  obtain ⟨c0, c1, c2⟩ := hc0
  obtain ⟨e0, e1, e2⟩ := hc1
  have bx : (X.toList == X.toList) = true := by simp
  have bd : (d == d) = true := by simp
  clear hS hT hs ht hX hd hB1
  go_enter Tryz.func11, Tryz.ntmps11
  go_wp2_with fail
  refine (same_ok T.body _ _ _ HS.out HT.out).mono ?_
  rintro e w3 ⟨rfl, hb3⟩
  go_wp2
  go_ret
  exact ⟨ret_bool (by simp), below_keep hb3 hB⟩
end Go.Proofs.YtgccheiemnpaoaaGreatDoor.par
