/-
  What Names of the landed tree returns. Condition: a tree in memory, of at most 600 statements with at most 40 refs each.
-/
import Derived.Test.YtgnhpjbkbefgpaaTreSet
import Derived.Test.YtgnhpjbkbefgpaaTreNms
namespace Go.Proofs.Ytgnhpjbkbefgpaa.tre
open Go.RowKit Go.Shelf lex

/-- What Names keeps: the names' box c, the map's box k, the map m, add's box a; new rows lie from B on. -/
structure NB where
  c : Nat
  m : Nat
  k : Nat
  a : Nat
  B : Nat
structure NB.ok (b : NB) (W0 : World) : Prop where
  c0 : W0.heap.size ≤ b.c
  m0 : W0.heap.size ≤ b.m
  cB : b.c < b.B
  mB : b.m < b.B
  kB : b.k < b.B
  aB : b.a < b.B
  cm : b.c ≠ b.m
  ck : b.c ≠ b.k
  ca : b.c ≠ b.a
  km : b.m ≠ b.k
  ma : b.m ≠ b.a
def addF (b : NB) : Value := .func (.func 36) #[] #[.pointer (some ⟨b.k, 0, none⟩), .pointer (some ⟨b.c, 0, none⟩)]
def NSt (W0 : World) (b : NB) (C : List (List UInt8)) (W : World) : Prop := Below W0.heap.size W0 W ∧ bxN W b.c b.B C ∧ W.cell? ⟨b.k, 0, none⟩ = some (.map (some b.m)) ∧ mSet W b.m C ∧ W.cell? ⟨b.a, 0, none⟩ = some (addF b) ∧ b.B ≤ W.heap.size
theorem bxN_keep {w1 w2 : World} {c B : Nat} {C : List (List UInt8)} (h : bxN w1 c B C) (hb : Below w1.heap.size w1 w2) : bxN w2 c B C := by
  obtain ⟨v, h1, h2⟩ := h; exact ⟨v, bx_keep h1 hb, own_keep h2 hb⟩
theorem NSt.keep {W0 w1 w2 : World} {b : NB} {C : List (List UInt8)} (h : NSt W0 b C w1) (hb : Below w1.heap.size w1 w2) : NSt W0 b C w2 :=
  ⟨below_keep hb h.1, bxN_keep h.2.1 hb, cell_keep hb h.2.2.1, mSet_keep h.2.2.2.1 hb, cell_keep hb h.2.2.2.2.1, Nat.le_trans h.2.2.2.2.2 hb.size⟩
theorem nrow_form {w : World} {B : Nat} {v : Value} {C : List (List UInt8)} {x : List UInt8} (h : Nrow w B v (C ++ [x])) : ∃ g cap, v = .slice (some ⟨g, 0, none⟩) (C.length + 1) cap := by
  rcases h.2 with ⟨_, h0⟩ | ⟨g, cap, cur, rfl, _⟩
  · simp at h0
  · exact ⟨g, cap, by rw [List.length_append]; rfl⟩
set_option maxRecDepth 100000 in
set_option maxHeartbeats 8000000 in
theorem add_of (W0 : World) (b : NB) (hb : b.ok W0) (C : List (List UInt8)) (X : ByteArray) (R : List (List UInt8)) (W : World) (hX : X.size ≤ maxLen) (hC : C.length ≤ 100000) (h : Hid (NSt W0 b C W)) (hR : Hid (addN C X.data.toList = R)) :
    Calls Try.prog 36 #[.string X, .pointer (some ⟨b.k, 0, none⟩), .pointer (some ⟨b.c, 0, none⟩)] W fun e w' => e = .returned (.tuple #[]) ∧ NSt W0 b R w' := by
  obtain ⟨hB, ⟨v, hbx, hrow⟩, hk, hm, ha, hz⟩ := id h.out
  have hlook := mSet_look hm X hX
  have hr := hR.out
  unfold addN at hr
  obtain ⟨q, hq⟩ : ∃ q, C.contains X.data.toList = q := ⟨_, rfl⟩
  rw [hq] at hlook hr
  cases q
  · rw [if_neg (by simp)] at hr
    obtain ⟨w1, hput, hm1, hg1⟩ := mSet_put hm X hX (by unfold maxLen; omega)
    have HW1 : Hid (Below W0.heap.size W0 w1) := Lib.hid (hB.grown hg1 hB.size (fun k hk => by have := Option.some.inj hk; have := hb.m0; omega))
    have hcl : b.c < W.heap.size := World.block_lt_of_cell? W _ hbx.1
    have hkl : b.k < W.heap.size := World.block_lt_of_cell? W _ hk
    have hal : b.a < W.heap.size := World.block_lt_of_cell? W _ ha
    have hne1 : some b.c ≠ some b.m := fun e => hb.cm (Option.some.inj e)
    have d0 : w1.cell? ⟨b.c, 0, none⟩ = some v := by rw [hg1.cell_far ⟨b.c, 0, none⟩ hcl hne1]; exact hbx.1
    have d1 : w1.frozen? ⟨b.c, 0, none⟩ = false := by rw [hg1.frozen_far ⟨b.c, 0, none⟩ hcl hne1]; exact hbx.2
    have dk : w1.cell? ⟨b.k, 0, none⟩ = some (.map (some b.m)) := by rw [hg1.cell_far ⟨b.k, 0, none⟩ hkl (fun e => hb.km (Option.some.inj e).symm)]; exact hk
    have da : w1.cell? ⟨b.a, 0, none⟩ = some (addF b) := by rw [hg1.cell_far ⟨b.a, 0, none⟩ hal (fun e => hb.ma (Option.some.inj e).symm)]; exact ha
    have hvm : v.ownBlock = none ∨ v.ownBlock ≠ some b.m := Or.inr (fun e => by have := (nrow_blk hrow e).1; have := hb.mB; omega)
    have HRow : Hid (Nrow w1 b.B v C) := Lib.hid (World.ownsRow.kept hrow hg1 hvm)
    have hz1 : b.B ≤ w1.heap.size := Nat.le_trans hz hg1.size
    have HM1 := Lib.hid hm1
    have HDK := Lib.hid dk
    have HDA := Lib.hid da
    obtain ⟨x, hx⟩ : ∃ x, X.data.toList = x := ⟨_, rfl⟩
    have hXx : X = bb x := by rw [← hx, bb_list]
    rw [hx] at hr HM1
    subst hr
    rw [hXx] at hlook hput ⊢
    have HG1 := Lib.hid hg1
    clear h hR hX hq hg1 hm1 hB hbx hrow hm ha hx hXx dk da hne1
    go_enter Try.func36, Try.ntmps36
    go_wp2_with (at_builtin; refine app_name rfl (.tmp 10) (.tmp 12) rfl b.B _ C x rfl rfl HRow (by omega) (by omega) ?_; intro v4 w4 hrow4 hgrow4; obtain ⟨g4, p4, rfl⟩ := nrow_form hrow4; have hvc : some b.c ≠ v.ownBlock := (fun e => by have := (nrow_blk HRow.out e.symm).1; have := hb.cB; omega); have hvk : some b.k ≠ v.ownBlock := (fun e => by have := (nrow_blk HRow.out e.symm).1; have := hb.kB; omega); have hva : some b.a ≠ v.ownBlock := (fun e => by have := (nrow_blk HRow.out e.symm).1; have := hb.aB; omega); have hvmm : some b.m ≠ v.ownBlock := (fun e => by have := (nrow_blk HRow.out e.symm).1; have := hb.mB; omega); have s1 := HG1.out.size; have k0 : w4.cell? ⟨b.c, 0, none⟩ = some v := (by rw [hgrow4.cell_far ⟨b.c, 0, none⟩ (by show b.c < _; omega) hvc]; exact d0); have k1 : w4.frozen? ⟨b.c, 0, none⟩ = false := (by rw [hgrow4.frozen_far ⟨b.c, 0, none⟩ (by show b.c < _; omega) hvc]; exact d1); have HDK4 := Lib.hid (show w4.cell? ⟨b.k, 0, none⟩ = some (.map (some b.m)) by rw [hgrow4.cell_far ⟨b.k, 0, none⟩ (by show b.k < _; omega) hvk]; exact HDK.out); have HDA4 := Lib.hid (show w4.cell? ⟨b.a, 0, none⟩ = some (addF b) by rw [hgrow4.cell_far ⟨b.a, 0, none⟩ (by show b.a < _; omega) hva]; exact HDA.out); have HM4 := Lib.hid (mSet_kept HM1.out hgrow4 hvmm); have HW4 := Lib.hid (HW1.out.grown hgrow4 HW1.out.size (fun k hk => by have := (nrow_blk HRow.out hk).1; have := hb.c0; have := hb.cB; omega)); have HZ4 := Lib.hid (Nat.le_trans hz1 hgrow4.size); have HR4 := Lib.hid hrow4; clear hgrow4 hrow4 s1 hvc hvk hva hvmm)
    refine ⟨rfl, Value.tuple #[], (by simp [results, go_sem, Try.results36]), rfl, HW4.out.setCell hb.c0 _, ⟨_, bx_set ⟨k0, k1⟩, ownsRow_setCell_below HR4.out (a := ⟨b.c, 0, none⟩) hb.cB _⟩, ?_, ?_, ?_, by simp; exact HZ4.out⟩
    · rw [World.cell?_of_block (Below.heap_setCell _ _ _ _ (fun e => hb.ck e.symm))]; exact HDK4.out
    · exact mSet_kept HM4.out (row := some b.c) ⟨rfl, rfl, rfl, by simp, fun k _ hk => Below.heap_setCell _ _ _ _ (fun e => hk (by rw [e]))⟩ (fun e => hb.cm (Option.some.inj e).symm)
    · rw [World.cell?_of_block (Below.heap_setCell _ _ _ _ (fun e => hb.ca e.symm))]; exact HDA4.out
  · rw [if_pos rfl] at hr
    subst hr
    clear hR hq hX hB hbx hrow hm ha
    go_enter Try.func36, Try.ntmps36
    go_wp2
    exact ⟨rfl, Value.tuple #[], (by simp [results, go_sem, Try.results36]), rfl, h.out⟩
theorem okL_mem {l : List St} (h : okL l) : ∀ s ∈ l, okL [s] := by
  induction l with
  | nil => intro s hs; cases hs
  | cons x t ih =>
    intro s hs
    obtain ⟨h1, h2, h3⟩ := okL_cons.1 h
    rcases List.mem_cons.1 hs with rfl | hs
    · exact okL_cons.2 ⟨h1, h2, fun y hy => by cases hy⟩
    · exact ih h3 s hs
/-- A statement in memory whose refs are few, at all levels. -/
def InN (W0 : World) (x : Sa) : Prop := memX W0 x ∧ okX x ∧ okL [x.s]
theorem inN_kids {W0 : World} {x : Sa} (h : InN W0 x) : ∀ y ∈ x.kids, InN W0 y := by
  intro y hy
  obtain ⟨h1, h2, h3⟩ := h
  obtain ⟨e1, e2⟩ := (okX_eq x).1 h2
  exact ⟨memX_kids h1 y hy, e2.ok y hy, okL_mem (okL_cons.1 h3).2.1 y.s (by rw [← e1]; exact List.mem_map.2 ⟨y, hy, rfl⟩)⟩
theorem inN_refs {W0 : World} {x : Sa} (h : InN W0 x) : x.s.refs.length ≤ 40 := (okL_cons.1 h.2.2).1.1
theorem fold_len (l C : List (List UInt8)) : (l.foldl addN C).length ≤ C.length + l.length := by
  induction l generalizing C with
  | nil => simp
  | cons x t ih =>
    rw [List.foldl_cons, List.length_cons]
    have := ih (addN C x)
    have := addN_len C x
    omega
theorem nmsS_len (s : St) : (nmsS s).length ≤ s.refs.length + 1 := by
  unfold nmsS
  rw [List.length_append, List.length_map]
  split <;> simp <;> omega
def namX (x : Sa × Int) (C : List (List UInt8)) : List (List UInt8) × Bool := ((nmsS x.1.s).foldl addN C, true)
def VNms (W0 : World) (b : NB) : Visit (List (List UInt8)) where
  f := namX
  I := NSt W0 b
  In := InN W0
  g := 37
  lb := #[.pointer (some ⟨b.a, 0, none⟩)]
  Bd := fun C n => C.length + 41 * n ≤ 25000
set_option maxRecDepth 100000 in
set_option maxHeartbeats 8000000 in
theorem vnms_run (W0 : World) (b : NB) (hb : b.ok W0) (x : Sa) (l : Int) (C : List (List UInt8)) (W : World) (hx : InN W0 x) (hC : C.length + 41 * 1 ≤ 25000) (hI : NSt W0 b C W) :
    Calls Try.prog 37 #[.pointer (some x.A), .int .i64 l, .pointer (some ⟨b.a, 0, none⟩)] W fun e w' => e = .returned (.bool true) ∧ NSt W0 b ((nmsS x.s).foldl addN C) w' := by
  have hr40 := inN_refs hx
  obtain ⟨z0, z1, hnm, ⟨rv, z2, hrv⟩, -⟩ := (stAt_eq _ _ _).1 ((memX_eq _ _).1 hx.1).1
  have HI := Lib.hid hI
  obtain ⟨R, hR⟩ : ∃ R, (nmsS x.s).foldl addN C = R := ⟨_, rfl⟩
  rw [hR]
  unfold nmsS at hR
  rw [List.foldl_append] at hR
  obtain ⟨k, hk⟩ : ∃ k, x.s.kind = k := ⟨_, rfl⟩
  obtain ⟨r, hr⟩ : ∃ r, x.s.refs = r := ⟨_, rfl⟩
  obtain ⟨X, hX⟩ : ∃ X, bb x.s.name = X := ⟨_, rfl⟩
  have hXd : X.data.toList = x.s.name := by rw [← hX]
  have HXs : Hid (X.size ≤ maxLen) := Lib.hid (by rw [← b_size, hXd]; exact hnm)
  rw [hk] at z0 hR
  rw [hX] at z1
  rw [hr] at hrv hr40 hR
  obtain ⟨ro, rc, rfl, -, -, -⟩ := id hrv
  obtain ⟨C1, hC1⟩ : ∃ C1, (if k = 1 then [x.s.name] else []).foldl addN C = C1 := ⟨_, rfl⟩
  rw [hC1] at hR
  have hC1l : C1.length ≤ C.length + 1 := by
    rw [← hC1]
    refine Nat.le_trans (fold_len _ _) ?_
    split <;> simp
  have HR := Lib.hid hR
  have HRV := Lib.hid hrv
  obtain ⟨hB, -, -, -, ka, -⟩ := hI
  have k0 := cell_later' hB z0
  have k1 := cell_later' hB z1
  have k2 := cell_later' hB z2
  unfold addF at ka
  have HZ2 := Lib.hid z2
  have hal : b.a < W.heap.size := World.block_lt_of_cell? W _ ka
  have hw : (k = 1 ∧ Hid (addN C X.data.toList = C1)) ∨ ((k == 1) = false ∧ Hid (C = C1)) := by
    by_cases h1 : k = 1
    · exact Or.inl ⟨h1, Lib.hid (by rw [← hC1, if_pos h1, hXd]; rfl)⟩
    · exact Or.inr ⟨by rw [beq_eq_false_iff_ne]; exact h1, Lib.hid (by rw [← hC1, if_neg h1]; rfl)⟩
  clear hR hk hr hX hXd hnm hrv hC1 hB z0 z1 z2 hx
  rcases hw with ⟨rfl, HC1⟩ | ⟨b1, HC1⟩
  case' inl =>
    have HC : Hid (∀ W', Below W.heap.size W W' → Calls Try.prog 36 #[.string X, .pointer (some ⟨b.k, 0, none⟩), .pointer (some ⟨b.c, 0, none⟩)] W' fun e w' => e = .returned (.tuple #[]) ∧ NSt W0 b C1 w') :=
      Lib.hid (fun W' hW => add_of W0 b hb C X C1 W' HXs.out (by omega) (Lib.hid (HI.out.keep hW)) HC1)
    go_enter Try.func37, Try.ntmps37
    go_wp2_with fail
    go_cut [5] (fun sv wx => sv = .bool false ∧ NSt W0 b C1 wx)
    case first =>
      go_region_law ((go_simp; refine (HC.out _ (by repeat (first | (with_reducible exact Below.refl _ _) | (with_reducible refine b_drew ?_)))).mono ?_; rintro e w2 ⟨rfl, hN⟩))
      all_goals
        go_wp2_with fail
        go_meet
        exact ⟨rfl, hN⟩
    case' rest =>
      obtain ⟨rfl, hN⟩ := hcut
      rename World => w2
      have HN := Lib.hid hN
      have k2 := cell_later' hN.1 HZ2.out
      clear hN k0 k1 ka hal HC
      go_wp2_with fail
  case' inr =>
    obtain rfl := HC1.out
    have HN := HI
    go_enter Try.func37, Try.ntmps37
    go_wp2_with fail
  case' inr => clear k0 k1 ka hal
  all_goals
    have hCC : ∀ (E D : List (List UInt8)) (j : Nat), E.length ≤ 50000 → ((r.take j).map (·.1)).foldl addN E = D → D.length ≤ 100000 := fun E D j he h => by
      rw [← h]
      refine Nat.le_trans (fold_len _ _) ?_
      rw [List.length_map, List.length_take]
      omega
    have HCC := Lib.hid hCC
    have hrl : (r.length : Int) ≤ 40 := by omega
    clear hCC k2 HI
    go_loopw [24] (fun iv wr => ∃ (j : Nat) (D : List (List UInt8)), j ≤ r.length ∧ iv = .int .i64 j ∧ ((r.take j).map (·.1)).foldl addN _ = D ∧ NSt W0 b D wr) (fun iv _ => r.length - (intOf iv).toNat)
    case atStart => exact ⟨0, _, Nat.zero_le _, rfl, rfl, HN.out⟩
    case round =>
      obtain ⟨j, D, hj, rfl, hD, hN⟩ := hrel
      rename World => wr
      have HD := Lib.hid hD
      have HS := Lib.hid hN
      have hDl := HCC.out _ D j (by omega) hD
      clear hD HN
      by_cases hlt : j < r.length
      · obtain ⟨B, rfl, p0, p1, q2, q3⟩ := (HRV.out.keep hN.1).get hlt
        have hst := nms_step HD.out hlt
        obtain ⟨y, hye⟩ : ∃ y, r[j] = y := ⟨_, rfl⟩
        rw [hye] at p0 p1 q2 q3 hst
        obtain ⟨X1, hX1⟩ : ∃ Y, bb y.1 = Y := ⟨_, rfl⟩
        obtain ⟨X2, hX2⟩ : ∃ Y, bb y.2 = Y := ⟨_, rfl⟩
        have d1 : X1.data.toList = y.1 := by rw [← hX1]
        rw [hX1] at p0
        rw [hX2] at p1
        have hbq := al_ref wr X1 X2
        have HN1 := Lib.hid (hN.keep hbq)
        obtain ⟨v0, v1⟩ := at2_str wr X1 X2 39
        obtain ⟨D1, hD1⟩ : ∃ q, addN D y.1 = q := ⟨_, rfl⟩
        have HA : Hid (addN D X1.data.toList = D1) := Lib.hid (by rw [d1]; exact hD1)
        rw [hD1] at hst
        have HT := Lib.hid hst
        have HXL := Lib.hid (show X1.size ≤ maxLen by rw [← b_size, d1]; exact q2)
        have ka := hN.2.2.2.2.1
        have hal : b.a < wr.heap.size := World.block_lt_of_cell? wr _ ka
        have han : b.a ≠ wr.heap.size := by omega
        unfold addF at ka
        have i0 : (0 : Int) ≤ (j : Int) := by omega
        have i1 : (j : Int) < (r.length : Int) := by omega
        have HC := Lib.hid (add_of W0 b hb D X1 D1 _ HXL.out hDl HN1 HA)
        clear hst hye hX1 hX2 d1 q2 q3 hN hbq hD1
        go_wp2_with fail
        refine HC.out.mono ?_
        rintro e w3 ⟨rfl, hN3⟩
        have HN3 := Lib.hid hN3
        clear hN3 ka hal han v0 v1 p0 p1
        go_wp2
        go_roundw
        case rel => exact ⟨j + 1, D1, by omega, by go_num, HT.out, HN3.out⟩
        case measure => simp [intOf]; omega
      · obtain rfl : j = r.length := by omega
        have HE : Hid (D = R) := Lib.hid (by have := HD.out; rw [List.take_length] at this; rw [← this]; exact HR.out)
        obtain rfl := HE.out
        clear hN
        go_wp2
        go_ret
        exact ⟨rfl, HS.out⟩
theorem vnms_ok (W0 : World) (b : NB) (hb : b.ok W0) : (VNms W0 b).Ok where
  eg := enters_of Try.func37 (by kernel_rfl) rfl
  kids := fun _ h => inN_kids h
  skel := fun _ _ h _ hx => memX_skel h.1 hx.1
  mono := fun C m n h hb => by show C.length + 41 * m ≤ 25000; have : C.length + 41 * n ≤ 25000 := hb; omega
  less := fun x l C n hx hb => by
    show ((nmsS x.s).foldl addN C).length + 41 * n ≤ 25000
    have h1 : C.length + 41 * (n + 1) ≤ 25000 := hb
    have h2 := fold_len (nmsS x.s) C
    have h3 := nmsS_len x.s
    have h4 := inN_refs hx
    omega
  run := fun x l C W hx _ _ hbd hI => vnms_run W0 b hb x l C W hx hbd hI
end Go.Proofs.Ytgnhpjbkbefgpaa.tre
