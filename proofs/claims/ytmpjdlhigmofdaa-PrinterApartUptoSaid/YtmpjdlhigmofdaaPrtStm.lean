/-
  What stmt and stmts of the reference of layer 8 return. Conditions: statements as a valid tree has them; texts of at most a million bytes.
-/
import Derived.Test.YtmpjdlhigmofdaaMPb
import Derived.Test.YtmpjdlhigmofdaaTreVal
namespace Go.Proofs.Ytmpjdlhigmofdaa.prt
open Go.RowKit Go.Sort lex tre

/-- The lines of statements, wherever they lie. -/
def RStOk (l : List St) : Prop := ∀ (w0 w : World) (v : Value) (d : Bool) (m : Nat) (ah Q : ByteArray), Hid (Below w0.heap.size w0 w) → Hid (Sts w0 v l) → Hid (vL l) → Hid (okL l) → Hid (ah.data.toList = List.replicate m 32) → Hid (stL prL d m l = Q.data.toList) → Q.size ≤ 1000000 →
  Calls Try.prog 24 #[v, .bool d, .string ah] w fun e w' => e = .returned (.string Q) ∧ Below w.heap.size w w'
def RSt (s : St) : Prop := ∀ (w0 w : World) (rv av bv : Value) (d : Bool) (m : Nat) (ah Q : ByteArray), Hid (Below w0.heap.size w0 w) → Hid (fvOk w0 ⟨s, 0, rv, av, bv⟩) → Hid (vS s) → Hid ((s.refs.length ≤ 40 ∧ s.attrs.length ≤ 40) ∧ okL s.body) → Hid (ah.data.toList = List.replicate m 32) → Hid (stS prL d m s = Q.data.toList) → Q.size ≤ 1000000 →
  Calls Try.prog 41 #[stV s rv av bv, .bool d, .string ah] w fun e w' => e = .returned (.string Q) ∧ Below w.heap.size w w'
theorem rep_app (m : Nat) {ah : ByteArray} (h : ah.data.toList = List.replicate m 32) : (ah ++ ⟨#[32, 32, 32, 32]⟩).data.toList = List.replicate (m + 4) 32 := by
  rw [ba_add, h]; show List.replicate m 32 ++ List.replicate 4 32 = _; exact List.replicate_append_replicate
theorem stL_app {pr : List UInt8 → Int × Int} (d : Bool) (m : Nat) (a b : List St) : stL pr d m (a ++ b) = stL pr d m a ++ stL pr d m b := by
  induction a with
  | nil => rfl
  | cons s t ih => rw [List.cons_append]; simp only [stL, ih, List.append_assoc]
theorem stL_take {pr : List UInt8 → Int × Int} (d : Bool) (m : Nat) {l : List St} {k : Nat} (h : k < l.length) : stL pr d m (l.take (k + 1)) = stL pr d m (l.take k) ++ stS pr d m l[k] := by
  rw [List.take_add_one, List.getElem?_eq_getElem h, stL_app]
  show _ ++ (stS pr d m l[k] ++ []) = _
  rw [List.append_nil]
theorem stL_le {pr : List UInt8 → Int × Int} (d : Bool) (m : Nat) (l : List St) (k : Nat) : (stL pr d m (l.take k)).length ≤ (stL pr d m l).length := by
  have h := stL_app (pr := pr) d m (l.take k) (l.drop k)
  rw [List.take_append_drop] at h
  rw [h, List.length_append]; omega
theorem vL_at {l : List St} (h : vL l) {k : Nat} (hk : k < l.length) : vS l[k] := by
  obtain ⟨lv, h⟩ := h
  refine ⟨lv, fun x hx => h x ?_⟩
  have : l = l.take k ++ (l[k] :: l.drop (k + 1)) := by rw [← List.drop_eq_getElem_cons hk, List.take_append_drop]
  rw [this, preL_app, preL_cons]
  exact List.mem_append_right _ (List.mem_append_left _ hx)
theorem okL_at {l : List St} (h : okL l) {k : Nat} (hk : k < l.length) : (l[k].refs.length ≤ 40 ∧ l[k].attrs.length ≤ 40) ∧ okL l[k].body := by
  have e : l = l.take k ++ (l[k] :: l.drop (k + 1)) := by rw [← List.drop_eq_getElem_cons hk, List.take_append_drop]
  have h2 : okL (l[k] :: l.drop (k + 1)) := fun x hx => h x (by rw [e, preL_app]; exact List.mem_append_right _ hx)
  exact ⟨(okL_cons.1 h2).1, (okL_cons.1 h2).2.1⟩
theorem len_of {Q : ByteArray} {l : List UInt8} (h : l = Q.data.toList) : Q.size = l.length := by rw [h, b_size]
theorem prs_in {w : World} {v : Value} {x : List UInt8} (h : Prs w v [([], x)]) : ∃ A cap, v = .slice (some A) 1 cap ∧ prAt w A 0 ([], x) := by
  obtain ⟨ao, cap, rfl, _, _, hA⟩ := h
  obtain ⟨A, rfl, h2⟩ := hA (by simp)
  exact ⟨A, cap, rfl, h2 0 (by simp)⟩
set_option maxRecDepth 100000 in
set_option maxHeartbeats 8000000 in
theorem rst_step (s : St) (ih : RStOk s.body) : RSt s := by
  intro w0 w rv av bv d m ah Q hB0 hfv hv hok hah hq hQ
  have hmx : Try.prog.follows .mixedOrders = true := by kernel_rfl
  obtain ⟨hnm, hrv, hav, hbv⟩ : s.name.length ≤ maxLen ∧ Prs w0 rv s.refs ∧ Prs w0 av s.attrs ∧ Sts w0 bv s.body := hfv.out
  have hform := hv.out.form
  have hatt := hv.out.att
  have hvals := hv.out.vals
  have hbody := hv.out.body
  have hoks := hok.out
  have hq0 := hq.out
  clear hfv hv hok hq
  obtain ⟨ro, rn, rc, rfl⟩ : ∃ a n c, rv = .slice a n c := by obtain ⟨a, c, rfl, _⟩ := hrv; exact ⟨_, _, _, rfl⟩
  obtain ⟨so, sn, sc, rfl⟩ : ∃ a n c, av = .slice a n c := by obtain ⟨a, c, rfl, _⟩ := hav; exact ⟨_, _, _, rfl⟩
  obtain ⟨bo, bn, bc, rfl⟩ : ∃ a n c, bv = .slice a n c := by obtain ⟨a, c, rfl, _⟩ := hbv; exact ⟨_, _, _, rfl⟩
  cases hform with
  | node n a hn hk =>
    simp only [St.kind, St.name, St.refs, St.attrs, St.body] at hnm hrv hav hbv hatt hoks
    have ha := hatt (by decide)
    have s1 := nm_le hn
    obtain ⟨X, hX⟩ : ∃ X, bb n = X := ⟨_, rfl⟩
    obtain ⟨A, hA⟩ : ∃ A, bb (aft prL a) = A := ⟨_, rfl⟩
    have HA : Hid (aft prL a = A.data.toList) := Lib.hid (by rw [← hA])
    have hX1 : X.data.toList = n := by rw [← hX]
    have hXs : X.size ≤ 16 := by rw [← b_size, hX1]; exact s1
    have hAs : A.size ≤ 4000 := by rw [← b_size, ← HA.out]; have := aft_len ha; omega
    have hqq : List.replicate m 32 ++ (n ++ (aft prL a ++ [59, 10])) = Q.data.toList := by rw [← hq0]; simp [stS]
    have HE : Hid (ah ++ X ++ A ++ ⟨#[59, 10]⟩ = Q) := Lib.hid (ba_eq (by rw [← hqq]; simp [hah.out, hX1, HA.out]))
    have has : ah.size ≤ 1000000 := by have := len_of hqq; rw [List.length_append, ← hah.out, b_size] at this; omega
    have HPA := Lib.hid (hav.keep hB0.out)
    have HO := Lib.hid ha
    have hal := hoks.1.2
    clear hq0 hqq hA ha hatt hvals hnm hrv hav hbv hoks hbody ih hn hk s1 hX1 hah hB0 hQ
    have hB1 := al1 w (.cells #[.int .i64 1, .string X, (.slice ro rn rc), (.slice so sn sc), (.slice bo bn bc)] 47)
    obtain ⟨c0, c1, c2, c3, c4⟩ := at5_new w 1 X (.slice ro rn rc) (.slice so sn sc) (.slice bo bn bc) 47
    show Calls Try.prog 41 #[.agg #[.int .i64 1, .string (bb n), (.slice ro rn rc), (.slice so sn sc), (.slice bo bn bc)], .bool d, .string ah] w _
    rw [hX]
    go_enter Try.func41, Try.ntmps41
    go_wp2_with fail
    generalize w.alloc (.cells #[.int .i64 1, .string X, (.slice ro rn rc), (.slice so sn sc), (.slice bo bn bc)] 47) = w1 at *
    have t0 := fun d os => cell_regrown c0 d os
    have t1 := fun d os => cell_regrown c1 d os
    have t3 := fun d os => cell_regrown c3 d os
    have hp1 := fun d os => (HPA.out.keep hB1).keep (below_regrown w1 d os)
    have cA := fun d os => Calls.regrown_of (w := w1) (d := d) (os := os) (rafter_of a _ A (grow (redrawn w1 d) os) (Lib.hid (hp1 d os)) hal HO HA)
    clear c0 c1 c2 c3 c4 hp1 HPA
    refine wp_region_quiet_below hmx (by kernel_rfl) ?_
    repeat (go_big_quiet_step (with_reducible exact cA _ _))
    refine wpQuiet_nil ?_
    intro _ hw'
    obtain ⟨⟨dq, osq⟩, hw''⟩ := hw'
    subst hw''
    go_wp2
    go_ret
    exact ⟨ret_str HE.out, below_keep (below_regrown w1 dq osq) hB1⟩
  | edge r r2 t a hr hk =>
    simp only [St.kind, St.name, St.refs, St.attrs, St.body] at hnm hrv hav hbv hatt hoks
    have ha := hatt (by decide)
    obtain ⟨X, hX⟩ : ∃ X, bb [] = X := ⟨_, rfl⟩
    obtain ⟨l, hl⟩ : ∃ l, r :: r2 :: t = l := ⟨_, rfl⟩
    rw [hl] at hr hrv hoks hq0
    have hro : refOk l := hr
    obtain ⟨A, hA⟩ : ∃ A, bb (aft prL a) = A := ⟨_, rfl⟩
    obtain ⟨R, hR⟩ : ∃ R, bb (refS d l) = R := ⟨_, rfl⟩
    have HA : Hid (aft prL a = A.data.toList) := Lib.hid (by rw [← hA])
    have HR : Hid (refS d l = R.data.toList) := Lib.hid (by rw [← hR])
    have hAs : A.size ≤ 4000 := by rw [← b_size, ← HA.out]; have := aft_len ha; omega
    have hRs : R.size ≤ 2000 := by rw [← b_size, ← HR.out]; have := refS_len d hro; omega
    have hqq : List.replicate m 32 ++ (refS d l ++ (aft prL a ++ [59, 10])) = Q.data.toList := by rw [← hq0]; simp [stS]
    have HE : Hid (ah ++ R ++ A ++ ⟨#[59, 10]⟩ = Q) := Lib.hid (ba_eq (by rw [← hqq]; simp [hah.out, HR.out, HA.out]))
    have has : ah.size ≤ 1000000 := by have := len_of hqq; rw [List.length_append, ← hah.out, b_size] at this; omega
    have HPA := Lib.hid (hav.keep hB0.out)
    have HPR := Lib.hid (hrv.keep hB0.out)
    have HO := Lib.hid ha
    have HO2 := Lib.hid hro
    have hal := hoks.1.2
    have hrl := hoks.1.1
    clear hq0 hqq hA hR ha hro hatt hvals hnm hrv hav hbv hoks hbody ih hr hk hl hah hB0 hQ
    have hB1 := al1 w (.cells #[.int .i64 2, .string X, (.slice ro rn rc), (.slice so sn sc), (.slice bo bn bc)] 47)
    obtain ⟨c0, c1, c2, c3, c4⟩ := at5_new w 2 X (.slice ro rn rc) (.slice so sn sc) (.slice bo bn bc) 47
    show Calls Try.prog 41 #[.agg #[.int .i64 2, .string (bb []), (.slice ro rn rc), (.slice so sn sc), (.slice bo bn bc)], .bool d, .string ah] w _
    rw [hX]
    go_enter Try.func41, Try.ntmps41
    go_wp2_with fail
    generalize w.alloc (.cells #[.int .i64 2, .string X, (.slice ro rn rc), (.slice so sn sc), (.slice bo bn bc)] 47) = w1 at *
    have t0 := fun d os => cell_regrown c0 d os
    have t2 := fun d os => cell_regrown c2 d os
    have t3 := fun d os => cell_regrown c3 d os
    have hp1 := fun d os => (HPA.out.keep hB1).keep (below_regrown w1 d os)
    have hp2 := fun d os => (HPR.out.keep hB1).keep (below_regrown w1 d os)
    have cA := fun d os => Calls.regrown_of (w := w1) (d := d) (os := os) (rafter_of a _ A (grow (redrawn w1 d) os) (Lib.hid (hp1 d os)) hal HO HA)
    have cR := fun d1 os => Calls.regrown_of (w := w1) (d := d1) (os := os) (rrefs_of l d _ R (grow (redrawn w1 d1) os) (Lib.hid (hp2 d1 os)) hrl HO2 HR)
    clear c0 c1 c2 c3 c4 hp1 hp2 HPA HPR
    refine wp_region_quiet_below hmx (by kernel_rfl) ?_
    repeat (go_big_quiet_step (first | with_reducible exact cA _ _ | with_reducible exact cR _ _))
    refine wpQuiet_nil ?_
    intro _ hw'
    obtain ⟨⟨dq, osq⟩, hw''⟩ := hw'
    subst hw''
    go_wp2
    go_ret
    exact ⟨ret_str HE.out, below_keep (below_regrown w1 dq osq) hB1⟩
  | dflt n a hn hk =>
    simp only [St.kind, St.name, St.refs, St.attrs, St.body] at hnm hrv hav hbv hatt hoks
    have ha := hatt (by decide)
    have s1 : n.length = 4 := by rcases hn with rfl | rfl <;> rfl
    obtain ⟨X, hX⟩ : ∃ X, bb n = X := ⟨_, rfl⟩
    have hX1 : X.data.toList = n := by rw [← hX]
    have hXs : X.size ≤ 16 := by rw [← b_size, hX1]; omega
    have hqq : List.replicate m 32 ++ (n ++ 32 :: ((if a.isEmpty then [91, 93] else attS prL a) ++ [59, 10])) = Q.data.toList := by rw [← hq0]; simp [stS]
    have has : ah.size ≤ 1000000 := by have := len_of hqq; rw [List.length_append, ← hah.out, b_size] at this; omega
    obtain rfl : sn = a.length := by obtain ⟨_, _, e, _⟩ := hav; cases e; rfl
    have HPA := Lib.hid (hav.keep hB0.out)
    have HO := Lib.hid ha
    have hal := hoks.1.2
    rcases Nat.eq_zero_or_pos a.length with h0 | h0
    · have HE : Hid (ah ++ X ++ ⟨#[32, 91, 93, 59, 10]⟩ = Q) := Lib.hid (ba_eq (by
        rw [← hqq]
        have : a = [] := List.length_eq_zero_iff.1 h0
        subst this
        simp [hah.out, hX1]))
      have b0 : ((a.length : Int) == 0) = true := by rw [beq_iff_eq]; omega
      clear hq0 hqq ha hatt hvals hnm hrv hav hbv hoks hbody ih hn hk s1 hX1 hah hB0 hQ HPA HO hal h0
      show Calls Try.prog 41 #[.agg #[.int .i64 3, .string (bb n), .slice ro rn rc, .slice so a.length sc, .slice bo bn bc], .bool d, .string ah] w _
      rw [hX]
      go_enter Try.func41, Try.ntmps41
      go_wp2
      go_ret
      exact ⟨ret_str HE.out, al1 ..⟩
    obtain ⟨A, hA⟩ : ∃ A, bb (attS prL a) = A := ⟨_, rfl⟩
    have HA : Hid (attS prL a = A.data.toList) := Lib.hid (by rw [← hA])
    have hAs : A.size ≤ 4000 := by rw [← b_size, ← HA.out]; have := attS_len ha; omega
    have HE : Hid (ah ++ X ++ ⟨#[32]⟩ ++ A ++ ⟨#[59, 10]⟩ = Q) := Lib.hid (ba_eq (by
      rw [← hqq, if_neg (by cases a <;> simp at h0 ⊢)]; simp [hah.out, hX1, HA.out]))
    have b0 : ((a.length : Int) == 0) = false := by rw [beq_eq_false_iff_ne]; omega
    clear hq0 hqq hA ha hatt hvals hnm hrv hav hbv hoks hbody ih hn hk s1 hX1 hah hB0 hQ h0
    have hB1 := al1 w (.cells #[.int .i64 3, .string X, (.slice ro rn rc), (.slice so a.length sc), (.slice bo bn bc)] 47)
    obtain ⟨c0, c1, c2, c3, c4⟩ := at5_new w 3 X (.slice ro rn rc) (.slice so a.length sc) (.slice bo bn bc) 47
    show Calls Try.prog 41 #[.agg #[.int .i64 3, .string (bb n), (.slice ro rn rc), (.slice so a.length sc), (.slice bo bn bc)], .bool d, .string ah] w _
    rw [hX]
    go_enter Try.func41, Try.ntmps41
    go_wp2_with fail
    generalize w.alloc (.cells #[.int .i64 3, .string X, (.slice ro rn rc), (.slice so a.length sc), (.slice bo bn bc)] 47) = w1 at *
    have t0 := fun d os => cell_regrown c0 d os
    have t1 := fun d os => cell_regrown c1 d os
    have t3 := fun d os => cell_regrown c3 d os
    have hp1 := fun d os => (HPA.out.keep hB1).keep (below_regrown w1 d os)
    have cA := fun d os => Calls.regrown_of (w := w1) (d := d) (os := os) (rlist_of a _ A (grow (redrawn w1 d) os) (Lib.hid (hp1 d os)) hal HO HA)
    clear c0 c1 c2 c4 hp1 HPA
    refine wp_region_quiet_below hmx (by kernel_rfl) ?_
    repeat (go_big_quiet_step (with_reducible exact cA _ _))
    refine wpQuiet_nil ?_
    intro _ hw'
    obtain ⟨⟨dq, osq⟩, hw''⟩ := hw'
    subst hw''
    go_wp2
    go_ret
    exact ⟨ret_str HE.out, below_keep (below_regrown w1 dq osq) hB1⟩
  | sset n x hn =>
    simp only [St.name, St.refs, St.attrs, St.body] at hnm hrv hav hbv hoks
    have hx := hvals ([], x) (by simp [St.attrs])
    have s1 := nm_le hn
    obtain ⟨X, hX⟩ : ∃ X, bb n = X := ⟨_, rfl⟩
    obtain ⟨Y, hY⟩ : ∃ Y, bb x = Y := ⟨_, rfl⟩
    obtain ⟨A, hA⟩ : ∃ A, bb (valS prL x) = A := ⟨_, rfl⟩
    have hX1 : X.data.toList = n := by rw [← hX]
    have hY1 : Y.data.toList = x := by rw [← hY]
    have HA : Hid (valS prL Y.data.toList = A.data.toList) := Lib.hid (by rw [← hA, hY1])
    have hXs : X.size ≤ 16 := by rw [← b_size, hX1]; exact s1
    have hYs : Y.size ≤ 32 := by rw [← b_size, hY1]; exact hx.1
    have hAs : A.size ≤ 66 := by rw [← b_size, ← HA.out, hY1]; exact val_len hx.1
    have HP : Hid (Y.data.toList.all isPl = true) := Lib.hid (by rw [hY1]; exact hx.2)
    have hqq : List.replicate m 32 ++ (wSet ++ 32 :: (n ++ 32 :: 61 :: 32 :: (valS prL x ++ [59, 10]))) = Q.data.toList := by rw [← hq0]; simp [stS]
    have HE : Hid (ah ++ ⟨#[115, 101, 116, 32]⟩ ++ X ++ ⟨#[32, 61, 32]⟩ ++ A ++ ⟨#[59, 10]⟩ = Q) := Lib.hid (ba_eq (by rw [← hqq]; simp [hah.out, hX1, ← HA.out, hY1, wSet]))
    have has : ah.size ≤ 1000000 := by have := len_of hqq; rw [List.length_append, ← hah.out, b_size] at this; omega
    obtain ⟨C, cap, e, p0, p1, _, _⟩ := prs_in (hav.keep hB0.out)
    cases e
    rw [hY] at p1
    clear hq0 hqq hA hatt hvals hnm hrv hav hbv hoks hbody ih hn s1 hX1 hY hY1 hah hB0 hQ hx p0
    have hB1 := al1 w (.cells #[.int .i64 4, .string X, (.slice ro rn rc), (.slice (some C) 1 sc), (.slice bo bn bc)] 47)
    obtain ⟨c0, c1, c2, c3, c4⟩ := at5_new w 4 X (.slice ro rn rc) (.slice (some C) 1 sc) (.slice bo bn bc) 47
    show Calls Try.prog 41 #[.agg #[.int .i64 4, .string (bb n), (.slice ro rn rc), (.slice (some C) 1 sc), (.slice bo bn bc)], .bool d, .string ah] w _
    rw [hX]
    go_enter Try.func41, Try.ntmps41
    go_wp2_with fail
    generalize w.alloc (.cells #[.int .i64 4, .string X, (.slice ro rn rc), (.slice (some C) 1 sc), (.slice bo bn bc)] 47) = w1 at *
    have t0 := fun d os => cell_regrown c0 d os
    have t1 := fun d os => cell_regrown c1 d os
    have t3 := fun d os => cell_regrown c3 d os
    have p2 : w.cell? ⟨C.block, C.off + 1, none⟩ = some (.string Y) := by simpa [Addr.add] using p1
    have u1 := fun d os => cell_regrown (cell_later' hB1 p2) d os
    have cA := fun d os => Calls.regrown_of (w := w1) (d := d) (os := os) ((rvalue_of Y A (grow (redrawn w1 d) os) hYs HP HA).mono fun _ _ h => ⟨h.1, by rw [← h.2]; exact Below.refl _ _⟩)
    clear c0 c1 c2 c3 c4 p1 p2
    refine wp_region_quiet_below hmx (by kernel_rfl) ?_
    repeat (go_big_quiet_step (with_reducible exact cA _ _))
    refine wpQuiet_nil ?_
    intro _ hw'
    obtain ⟨⟨dq, osq⟩, hw''⟩ := hw'
    subst hw''
    go_wp2
    go_ret
    exact ⟨ret_str HE.out, below_keep (below_regrown w1 dq osq) hB1⟩
  | clus n b hn =>
    simp only [St.name, St.refs, St.attrs, St.body] at hnm hrv hav hbv hoks hbody ih
    have s1 := nm_le hn
    obtain ⟨X, hX⟩ : ∃ X, bb n = X := ⟨_, rfl⟩
    obtain ⟨A, hA⟩ : ∃ A, bb (stL prL d (m + 4) b) = A := ⟨_, rfl⟩
    have HA : Hid (stL prL d (m + 4) b = A.data.toList) := Lib.hid (by rw [← hA])
    have hX1 : X.data.toList = n := by rw [← hX]
    have hXs : X.size ≤ 16 := by rw [← b_size, hX1]; exact s1
    have hqq : List.replicate m 32 ++ (wClu ++ 32 :: (n ++ 32 :: 123 :: 10 :: (stL prL d (m + 4) b ++ (List.replicate m 32 ++ [125, 10])))) = Q.data.toList := by rw [← hq0]; simp [stS]
    have HE : Hid (ah ++ ⟨#[99, 108, 117, 115, 116, 101, 114, 32]⟩ ++ X ++ ⟨#[32, 123, 10]⟩ ++ A ++ ah ++ ⟨#[125, 10]⟩ = Q) := Lib.hid (ba_eq (by rw [← hqq]; simp [hah.out, hX1, HA.out, wClu]))
    have hsz := len_of hqq
    simp only [List.length_append, List.length_cons, List.length_replicate, HA.out, b_size] at hsz
    have hahs : ah.size = m := by rw [← b_size, hah.out, List.length_replicate]
    have has : ah.size ≤ 1000000 := by omega
    have hAs : A.size ≤ 1000000 := by omega
    have HBV := Lib.hid hbv
    have HVL := Lib.hid hbody
    have HOK := Lib.hid hoks.2
    have HAH := Lib.hid (rep_app m hah.out)
    have IH := Lib.hid ih
    clear hq0 hqq hA hatt hvals hnm hrv hav hbv hoks hbody ih hn s1 hX1 hah hQ hsz hahs
    have hB1 := al1 w (.cells #[.int .i64 5, .string X, (.slice ro rn rc), (.slice so sn sc), (.slice bo bn bc)] 47)
    obtain ⟨c0, c1, c2, c3, c4⟩ := at5_new w 5 X (.slice ro rn rc) (.slice so sn sc) (.slice bo bn bc) 47
    show Calls Try.prog 41 #[.agg #[.int .i64 5, .string (bb n), (.slice ro rn rc), (.slice so sn sc), (.slice bo bn bc)], .bool d, .string ah] w _
    rw [hX]
    go_enter Try.func41, Try.ntmps41
    go_wp2_with fail
    generalize w.alloc (.cells #[.int .i64 5, .string X, (.slice ro rn rc), (.slice so sn sc), (.slice bo bn bc)] 47) = w1 at *
    have t0 := fun d os => cell_regrown c0 d os
    have t1 := fun d os => cell_regrown c1 d os
    have t4 := fun d os => cell_regrown c4 d os
    have hp1 := fun d os => Lib.hid (hB0.out.trans ((hB1.trans ((below_regrown w1 d os).mono hB1.size)).mono hB0.out.size))
    have cA := fun d1 os => Calls.regrown_of (w := w1) (d := d1) (os := os) (IH.out w0 (grow (redrawn w1 d1) os) _ d (m + 4) _ A (hp1 d1 os) HBV HVL HOK HAH HA hAs)
    clear c0 c1 c2 c3 c4 hp1
    refine wp_region_quiet_below hmx (by kernel_rfl) ?_
    repeat (go_big_quiet_step (with_reducible exact cA _ _))
    refine wpQuiet_nil ?_
    intro _ hw'
    obtain ⟨⟨dq, osq⟩, hw''⟩ := hw'
    subst hw''
    go_wp2
    go_ret
    exact ⟨ret_str HE.out, below_keep (below_regrown w1 dq osq) hB1⟩
set_option maxRecDepth 100000 in
set_option maxHeartbeats 8000000 in
theorem rstL_step (l : List St) (ih : ∀ s ∈ l, RStOk s.body) : RStOk l := by
  intro w0 w v d m ah Q hB0 hs hv hok hah hq hQ
  obtain ⟨ao, cap, rfl, hc, hm, _⟩ := id hs.out
  have IH := Lib.hid ih
  unfold maxLen at hm
  have hlm : l.length ≤ 9223372036854775807 := by omega
  clear ih hc hm
  go_enter Try.func24, Try.ntmps24
  go_wp2_with fail
  go_loopw [7, 8] (fun s i wr => ∃ (b : ByteArray) (k : Nat), k ≤ l.length ∧ s = .string b ∧ i = .int .i64 k ∧ b.data.toList = stL prL d m (l.take k) ∧ b.size ≤ 1000000 ∧ Below w.heap.size w wr) (fun _ i _ => l.length - (intOf i).toNat)
  case atStart => exact ⟨_, 0, Nat.zero_le _, rfl, rfl, rfl, by decide, Below.refl _ _⟩
  case round =>
    obtain ⟨b, k, hk, rfl, rfl, hb, hbs, hB⟩ := hrel
    rename World => wr
    have HBL := Lib.hid hb
    clear hb
    by_cases hlt : k < l.length
    · have hBr : Below w0.heap.size w0 wr := hB0.out.trans (hB.mono hB0.out.size)
      obtain ⟨A, rfl, hst0⟩ := hs.out.get hlt
      obtain ⟨c0, c1, hnl, ⟨rv, c2, hrv⟩, ⟨av, c3, hav⟩, bv, c4, hbv⟩ := (stAt_eq _ _ _).1 hst0
      have c0 := cell_later' hBr c0
      have c1 := cell_later' hBr c1
      have c2 := cell_later' hBr c2
      have c3 := cell_later' hBr c3
      have c4 := cell_later' hBr c4
      have HFV : Hid (fvOk w0 ⟨l[k], 0, rv, av, bv⟩) := Lib.hid ⟨hnl, hrv, hav, hbv⟩
      obtain ⟨ro, rn, rc, rfl⟩ : ∃ a n c, rv = .slice a n c := by obtain ⟨a, c, rfl, _⟩ := hrv; exact ⟨_, _, _, rfl⟩
      obtain ⟨so, sn, sc, rfl⟩ : ∃ a n c, av = .slice a n c := by obtain ⟨a, c, rfl, _⟩ := hav; exact ⟨_, _, _, rfl⟩
      obtain ⟨bo, bn, bc, rfl⟩ : ∃ a n c, bv = .slice a n c := by obtain ⟨a, c, rfl, _⟩ := hbv; exact ⟨_, _, _, rfl⟩
      have HT := Lib.hid (stL_take (pr := prL) d m hlt)
      have HLE := Lib.hid (stL_le (pr := prL) d m l (k + 1))
      have HVS := Lib.hid (vL_at hv.out hlt)
      have HOK := Lib.hid (okL_at hok.out hlt)
      have HR := Lib.hid (rst_step l[k] (IH.out l[k] (List.getElem_mem hlt)))
      obtain ⟨x, hx⟩ : ∃ x, l[k] = x := ⟨_, rfl⟩
      rw [hx] at c0 c1 HFV HT HVS HOK HR
      clear hx hst0 hnl hrv hav hbv
      obtain ⟨S, hS⟩ : ∃ S, bb (stS prL d m x) = S := ⟨_, rfl⟩
      have HS : Hid (stS prL d m x = S.data.toList) := Lib.hid (by rw [← hS])
      have hfin : (b ++ S).data.toList = stL prL d m (l.take (k + 1)) := by rw [HT.out, ba_add, HBL.out, HS.out]
      have hsz : (b ++ S).size ≤ 1000000 := by
        have := HLE.out
        rw [← b_size, hfin]
        have h2 := len_of hq.out
        omega
      have hSs : S.size ≤ 1000000 := by rw [ByteArray.size_append] at hsz; omega
      have HF := Lib.hid hfin
      have HZ := Lib.hid hsz
      have HBR := Lib.hid hBr
      obtain ⟨X, hX⟩ : ∃ X, bb x.name = X := ⟨_, rfl⟩
      have z0 : (0 : Int) ≤ (k : Int) := by omega
      have z1 : (k : Int) < (l.length : Int) := by omega
      have HC : Hid (Calls Try.prog 41 #[.agg #[.int .i64 x.kind, .string X, .slice ro rn rc, .slice so sn sc, .slice bo bn bc], .bool d, .string ah] wr fun e w' => e = .returned (.string S) ∧ Below wr.heap.size wr w') := Lib.hid (by
        rw [← hX]; exact HR.out w0 wr _ _ _ d m ah S HBR HFV HVS HOK hah HS hSs)
      rw [hX] at c1
      clear hX hS hfin hsz HT HLE HR HFV hBr
      go_wp2_with (go_at_call 41; refine (HC.out).mono ?_; rintro e w2 ⟨rfl, hb2⟩)
      go_roundw
      case rel => exact ⟨_, k + 1, by omega, rfl, by go_num, HF.out, HZ.out, below_keep hb2 hB⟩
      case measure => simp [intOf]; omega
    · obtain rfl : k = l.length := by omega
      have HE : Hid (b = Q) := Lib.hid (ba_eq (by rw [← hq.out, HBL.out, List.take_length]))
      go_wp2
      go_ret
      exact ⟨ret_str HE.out, hB⟩
theorem rstmts_ok (l : List St) : RStOk l := lst_ind rstL_step l
end Go.Proofs.Ytmpjdlhigmofdaa.prt
