/-
  What Print and Attrs of the reference of layer 8 return. Conditions: trees of at most 600 statements with few references and attributes each, texts of at most a million bytes; at most 40 attributes.
  What Print and Attrs of the landed printer return. Conditions: trees of at most 600 statements with few references and attributes each, texts of at most 900000 bytes; at most 40 attributes.
  What awake of the statements of layer 7 answers, over the premise that the code answers as its plain functions say.
  What awake of the statements of layer 8 answers. No condition.
  awake of the statements of layer 8 answers true. No condition.
-/
import Derived.Test.YtmpjdlhigmofdaaPrtStm
import Derived.Test.YtmpjdlhigmofdaaMPd
import Derived.Test.YtmpjdlhigmofdaaTreVld
import Derived.Test.YtmpjdlhigmofdaaMTe
namespace Go.Proofs.Ytmpjdlhigmofdaa.prt
open Go.RowKit Go.Sort lex tre

set_option maxRecDepth 100000 in
set_option maxHeartbeats 8000000 in
theorem rprint_of (T : Tr) (v : Value) (Q : ByteArray) (w : World) (h : Hid (TrV w v T)) (hc : cnt T.body ≤ 600) (ho : Hid (okL T.body)) (hq : Hid (prtT prL T = Q.data.toList)) (hQ : Q.size ≤ 1000000) :
    Calls Try.prog 10 #[v] w fun e w' => e = .returned (.string Q) ∧ Below w.heap.size w w' := by
  have hmx : Try.prog.follows .mixedOrders = true := by kernel_rfl
  obtain ⟨bv, rfl, hnm, hbv⟩ := h.out
  obtain ⟨bo, bn, bc, rfl⟩ : ∃ a n c, bv = .slice a n c := by obtain ⟨a, c, rfl, _⟩ := hbv; exact ⟨_, _, _, rfl⟩
  obtain ⟨R, hR⟩ : ∃ R, validT T = R := ⟨_, rfl⟩
  have HR := Lib.hid hR
  obtain ⟨X, hX⟩ : ∃ X, bb T.name = X := ⟨_, rfl⟩
  have HX := Lib.hid hX
  obtain ⟨d, hd⟩ : ∃ d, T.dir = d := ⟨_, rfl⟩
  have HD := Lib.hid hd
  rw [hX, hd] at h ⊢
  clear hX hd
  have hB := al1 w (.cells #[.string X, .bool d, .slice bo bn bc] 24)
  obtain ⟨c0, c1, c2⟩ := at3_new w X d (.slice bo bn bc) 24
  have HT := Lib.hid (h.out.keep hB)
  have hr := hq.out
  unfold prtT at hr
  rw [hR] at hr
  have HBV := Lib.hid hbv
  clear hbv hR h hq
  by_cases h0 : R = 0
  · subst h0
    rw [if_pos rfl] at hr
    unfold txtT at hr
    have hval := (valid_iff T).1 HR.out
    have s1 := nm_le hval.1
    have HVL : Hid (vL T.body) := Lib.hid ⟨0, hval.2.2⟩
    obtain ⟨A, hA⟩ : ∃ A, bb (stL prL d 4 T.body) = A := ⟨_, rfl⟩
    have HA : Hid (stL prL d 4 T.body = A.data.toList) := Lib.hid (by rw [← hA])
    have hX1 : X.data.toList = T.name := by rw [← HX.out]
    have hXs : X.size ≤ 16 := by rw [← b_size, hX1]; exact s1
    rw [HD.out] at hr
    have hsz := len_of hr
    simp only [List.length_append, List.length_cons, HA.out, b_size] at hsz
    have hAs : A.size ≤ 1000000 := by omega
    have HE : Hid ((if d then (⟨#[100, 105, 103, 114, 97, 112, 104, 32]⟩ : ByteArray) else ⟨#[103, 114, 97, 112, 104, 32]⟩) ++ X ++ ⟨#[32, 123, 10]⟩ ++ A ++ ⟨#[125, 10]⟩ = Q) := Lib.hid (ba_eq (by
      rw [← hr]; cases d <;> simp [wDir, hX1, HA.out]))
    clear hr hval s1 hA hX1 hsz HX HD hQ hnm
    go_enter Try.func10, Try.ntmps10
    go_wp2_with fail
    refine (rvalid_of _ T 0 _ HT hc HR).mono ?_
    rintro e w1 ⟨rfl, hb1⟩
    have hB1 := below_keep hb1 hB
    have c0 := cell_keep hb1 c0
    have c1 := cell_keep hb1 c1
    have c2 := cell_keep hb1 c2
    have t0 := fun d os => cell_regrown c0 d os
    have t1 := fun d os => cell_regrown c1 d os
    have t2 := fun d os => cell_regrown c2 d os
    have hp1 := fun d os => Lib.hid (hB1.trans ((below_regrown w1 d os).mono hB1.size))
    have cA := fun d1 os => Calls.regrown_of (w := w1) (d := d1) (os := os) (rstmts_ok T.body w (grow (redrawn w1 d1) os) _ d 4 ⟨#[32, 32, 32, 32]⟩ A (hp1 d1 os) HBV HVL ho (Lib.hid rfl) HA hAs)
    have C1 := Lib.hid c1
    clear c0 c2 hp1 hB hb1 c1
    cases d
    · have c1 := C1.out
      go_wp2_with fail
      refine wp_region_quiet_below hmx (by kernel_rfl) ?_
      repeat (go_big_quiet_step (with_reducible exact cA _ _))
      refine wpQuiet_nil ?_
      intro _ hw'
      obtain ⟨⟨dq, osq⟩, hw''⟩ := hw'
      subst hw''
      go_wp2
      go_ret
      exact ⟨ret_str HE.out, below_keep (below_regrown w1 dq osq) hB1⟩
    · have c1 := C1.out
      go_wp2_with fail
      refine wp_region_quiet_below hmx (by kernel_rfl) ?_
      repeat (go_big_quiet_step (with_reducible exact cA _ _))
      refine wpQuiet_nil ?_
      intro _ hw'
      obtain ⟨⟨dq, osq⟩, hw''⟩ := hw'
      subst hw''
      go_wp2
      go_ret
      exact ⟨ret_str HE.out, below_keep (below_regrown w1 dq osq) hB1⟩
  · rw [if_neg h0] at hr
    have HE : Hid ((⟨#[]⟩ : ByteArray) = Q) := Lib.hid (ba_eq (by rw [← hr]))
    have b0 : (R != 0) = true := by simp [h0]
    clear hr h0
    go_enter Try.func10, Try.ntmps10
    go_wp2_with (go_at_call 13; refine (rvalid_of _ T R _ HT hc HR).mono ?_; rintro e w1 ⟨rfl, hb1⟩)
    go_ret
    exact ⟨ret_str HE.out, below_keep hb1 hB⟩
/-- A tree of one node with the attributes l. -/
def attTr (l : List Pr) : Tr := ⟨[103], false, [.mk 1 [97] [] l []]⟩
def atsT (l : List Pr) : List UInt8 := if validT (attTr l) = 0 then attS prL l else []
theorem attTr_cnt (l : List Pr) : cnt (attTr l).body ≤ 600 := by
  show cnt [.mk 1 [97] [] l []] ≤ 600
  rw [cnt_cons, cnt_nil]
  show 1 + cnt [] + 0 ≤ 600
  rw [cnt_nil]; decide
theorem attTr_ok {l : List Pr} (h : validT (attTr l) = 0) : attOk l := by
  have hv := ((valid_iff _).1 h).2.2
  have : vL (attTr l).body := ⟨0, hv⟩
  exact (vL.cons this).1.att (by show (1 : Int) ≠ 4; decide)
theorem row_att {w : World} {ao : Option Addr} {n c : Nat} {l : List Pr} {g : Nat} (h : Prs w (.slice ao n c) l) (h5 : at5 w g 1 (bb [97]) (.slice none 0 0) (.slice ao n c) (.slice none 0 0)) :
    TrV w (.agg #[.string (bb [103]), .bool false, .slice (some ⟨g, 0, none⟩) 1 1]) (attTr l) := by
  obtain ⟨c0, c1, c2, c3, c4⟩ := h5
  refine ⟨_, rfl, by show ([103] : List UInt8).length ≤ maxLen; decide, some ⟨g, 0, none⟩, 1, rfl, Nat.le_refl _, by decide, fun _ => ⟨_, rfl, ?_, trivial⟩⟩
  refine (stAt_eq _ _ _).2 ⟨c0, c1, by show ([97] : List UInt8).length ≤ maxLen; decide, ⟨_, c2, Prs.nil _⟩, ⟨_, c3, h⟩, _, c4, Sts.nil _⟩
set_option maxRecDepth 100000 in
set_option maxHeartbeats 8000000 in
theorem rattrs_of (l : List Pr) (v : Value) (Q : ByteArray) (w : World) (h : Hid (Prs w v l)) (hl : l.length ≤ 40) (hq : Hid (atsT l = Q.data.toList)) :
    Calls Try.prog 12 #[v] w fun e w' => e = .returned (.string Q) ∧ Below w.heap.size w w' := by
  obtain ⟨ao, n, c, rfl⟩ : ∃ a n c, v = .slice a n c := by obtain ⟨a, c, rfl, _⟩ := h.out; exact ⟨_, _, _, rfl⟩
  obtain ⟨R, hR⟩ : ∃ R, validT (attTr l) = R := ⟨_, rfl⟩
  have HR := Lib.hid hR
  have hB1 := al1 w (.cells #[.int .i64 1, .string ⟨#[97]⟩, .slice none 0 0, .slice ao n c, .slice none 0 0] 47)
  have h5 := at5_new w 1 ⟨#[97]⟩ (.slice none 0 0) (.slice ao n c) (.slice none 0 0) 47
  have hB := hB1.alloc (by simp) (.cells #[.string ⟨#[103]⟩, .bool false, .slice (some ⟨w.heap.size, 0, none⟩) 1 1] 24)
  have HT : Hid (TrV ((w.alloc (.cells #[.int .i64 1, .string ⟨#[97]⟩, .slice none 0 0, .slice ao n c, .slice none 0 0] 47)).alloc (.cells #[.string ⟨#[103]⟩, .bool false, .slice (some ⟨w.heap.size, 0, none⟩) 1 1] 24)) (.agg #[.string ⟨#[103]⟩, .bool false, .slice (some ⟨w.heap.size, 0, none⟩) 1 1]) (attTr l)) :=
    Lib.hid (row_att (h.out.keep hB) (at5_keep h5 (al1 ..)))
  have hr := hq.out
  unfold atsT at hr
  rw [hR] at hr
  have hct := attTr_cnt l
  clear hB1 h5 hq
  by_cases h0 : R = 0
  · subst h0
    rw [if_pos rfl] at hr
    have HO := Lib.hid (attTr_ok hR)
    have HQ := Lib.hid hr
    clear hr hR
    go_enter Try.func12, Try.ntmps12
    go_wp2_with fail
    refine (rvalid_of _ (attTr l) 0 _ HT hct HR).mono ?_
    rintro e w1 ⟨rfl, hb1⟩
    have HP := Lib.hid (h.out.keep (below_keep hb1 hB))
    go_wp2_with (go_at_call 26; refine (rlist_of l _ Q _ HP hl HO HQ).mono ?_; rintro e w2 ⟨rfl, hb2⟩)
    go_ret
    exact ⟨rfl, below_keep hb2 (below_keep hb1 hB)⟩
  · rw [if_neg h0] at hr
    have HE : Hid ((⟨#[]⟩ : ByteArray) = Q) := Lib.hid (ba_eq (by rw [← hr]))
    have b0 : (R != 0) = true := by simp [h0]
    clear hr h0 hR
    go_enter Try.func12, Try.ntmps12
    go_wp2_with (go_at_call 13; refine (rvalid_of _ (attTr l) R _ HT hct HR).mono ?_; rintro e w1 ⟨rfl, hb1⟩)
    go_ret
    exact ⟨ret_str HE.out, below_keep hb1 hB⟩
end Go.Proofs.Ytmpjdlhigmofdaa.prt
namespace Go.Proofs.Ytmpjdlhigmofdaa.prt
open Go.RowKit Go.Sort lex tre

theorem blk_txt (T : Tr) {d : Bool} {X kw : ByteArray} (hd : T.dir = d) (hX : X.data.toList = T.name) (hk : kw.data.toList = wDir d) : blkT d 0 kw X T.body = txtT prL T := by
  unfold blkT txtT
  rw [hd, hX, hk]
  rfl
set_option maxRecDepth 100000 in
set_option maxHeartbeats 4000000 in
theorem cprint_of (T : Tr) (v : Value) (Q : ByteArray) (w : World) (h : Hid (TrV w v T)) (hc : cnt T.body ≤ 600) (ho : Hid (okL T.body)) (hq : Hid (prtT prL T = Q.data.toList)) (hQ : Q.size ≤ 900000) :
    Calls Try.prog 9 #[v] w fun e w' => e = .returned (.string Q) ∧ Below w.heap.size w w' := by
  obtain ⟨bv, rfl, hnm, hbv⟩ := h.out
  obtain ⟨bo, bn, bc, rfl⟩ : ∃ a n c, bv = .slice a n c := by obtain ⟨a, c, rfl, _⟩ := hbv; exact ⟨_, _, _, rfl⟩
  obtain ⟨R, hR⟩ : ∃ R, validT T = R := ⟨_, rfl⟩
  have HR := Lib.hid hR
  obtain ⟨X, hX⟩ : ∃ X, bb T.name = X := ⟨_, rfl⟩
  have HX := Lib.hid hX
  obtain ⟨d, hd⟩ : ∃ d, T.dir = d := ⟨_, rfl⟩
  have HD := Lib.hid hd
  rw [hX, hd] at h ⊢
  clear hX hd
  have hB := al1 w (.cells #[.string X, .bool d, .slice bo bn bc] 24)
  obtain ⟨c0, c1, c2⟩ := at3_new w X d (.slice bo bn bc) 24
  have HT := Lib.hid (h.out.keep hB)
  have hr := hq.out
  unfold prtT at hr
  rw [hR] at hr
  have HBV := Lib.hid hbv
  clear hbv hR h hq
  by_cases h0 : R = 0
  · subst h0
    rw [if_pos rfl] at hr
    have hval := (valid_iff T).1 HR.out
    have s1 := nm_le hval.1
    have HVL : Hid (vL T.body) := Lib.hid ⟨0, hval.2.2⟩
    have hX1 : X.data.toList = T.name := by rw [← HX.out]
    have hXs : X.size ≤ 16 := by rw [← b_size, hX1]; exact s1
    have HTX : Hid (∀ kw : ByteArray, kw.data.toList = wDir d → blkT d 0 kw X T.body = Q.data.toList) := Lib.hid (fun kw hk => by rw [blk_txt T HD.out hX1 hk, hr])
    have hQ0 : Q.data.toList ≠ [] := by
      rw [← hr]
      unfold txtT wDir
      split <;> simp
    have HQ0 := Lib.hid hQ0
    clear hr hval s1 hX1 HX HD hnm hQ0
    go_enter Try.func9, Try.ntmps9
    go_wp2_with fail
    refine (valid_of _ T 0 _ HT hc HR).mono ?_
    rintro e w1 ⟨rfl, hb1⟩
    have hB1 := below_keep hb1 hB
    have c0 := cell_keep hb1 c0
    have c1 := cell_keep hb1 c1
    have c2 := cell_keep hb1 c2
    have C1 := Lib.hid c1
    have hs1 := hB1.size
    have hnew := wr_new w1 (arrB d)
    have hq5 : ∀ kw : ByteArray, kw.data.toList = wDir d → ([] : List UInt8).length + (blkT d 0 kw X T.body).length + 10000 ≤ 1000000 := fun kw hk => by
      rw [HTX.out kw hk, b_size]; simp; omega
    have HQ5 := Lib.hid hq5
    have hb2 := al1 w1 (.cells #[.pointer none, .slice none 0 0, .int .i64 0, .string (arrB d)] 57)
    have d0 := cell_keep hb2 c0
    have d2 := cell_keep hb2 c2
    have HB2 := Lib.hid (below_keep hb2 hB1)
    have HNEW : Hid (Wr (w1.alloc (.cells #[.pointer none, .slice none 0 0, .int .i64 0, .string (arrB d)] 57)) w1.heap.size [] ((0 : Nat) : Int) (arrB d)) := Lib.hid hnew
    clear hb1 hB c1 hq5 hnew hb2
    cases d
    · have c1 := C1.out
      have e0 : (w1.alloc (.cells #[.pointer none, .slice none 0 0, .int .i64 0, .string ⟨#[32, 45, 45, 32]⟩] 57)).cell? ⟨w.heap.size, 0, none⟩ = some (.string X) := d0
      have e2 : (w1.alloc (.cells #[.pointer none, .slice none 0 0, .int .i64 0, .string ⟨#[32, 45, 45, 32]⟩] 57)).cell? ⟨w.heap.size, 2, none⟩ = some (.slice bo bn bc) := d2
      clear d0 d2
      go_wp2_with fail
      refine (cblock_ok T.body w _ w1.heap.size [] 0 false ⟨#[103, 114, 97, 112, 104]⟩ X _ HB2 hs1 HNEW HBV HVL ho hXs (by decide) (HQ5.out ⟨#[103, 114, 97, 112, 104]⟩ rfl)).mono ?_
      rintro e w5 ⟨rfl, h5, hf5⟩
      rw [List.nil_append, HTX.out ⟨#[103, 114, 97, 112, 104]⟩ rfl] at h5
      have H5 := Lib.hid h5
      have hB5 := HB2.out.trans (hf5.1.mono hs1)
      clear h5 hf5
      go_wp2_with (go_at_call 23; refine (wtext_of w1.heap.size Q.data.toList w5 H5 HQ0.out).mono ?_; rintro e w6 ⟨rfl, hb6⟩)
      go_ret
      exact ⟨ret_str (ba_eq (by simp)), hB5.trans (hb6.mono hs1)⟩
    · have c1 := C1.out
      have e0 : (w1.alloc (.cells #[.pointer none, .slice none 0 0, .int .i64 0, .string ⟨#[32, 45, 62, 32]⟩] 57)).cell? ⟨w.heap.size, 0, none⟩ = some (.string X) := d0
      have e2 : (w1.alloc (.cells #[.pointer none, .slice none 0 0, .int .i64 0, .string ⟨#[32, 45, 62, 32]⟩] 57)).cell? ⟨w.heap.size, 2, none⟩ = some (.slice bo bn bc) := d2
      clear d0 d2
      go_wp2_with fail
      refine (cblock_ok T.body w _ w1.heap.size [] 0 true ⟨#[100, 105, 103, 114, 97, 112, 104]⟩ X _ HB2 hs1 HNEW HBV HVL ho hXs (by decide) (HQ5.out ⟨#[100, 105, 103, 114, 97, 112, 104]⟩ rfl)).mono ?_
      rintro e w5 ⟨rfl, h5, hf5⟩
      rw [List.nil_append, HTX.out ⟨#[100, 105, 103, 114, 97, 112, 104]⟩ rfl] at h5
      have H5 := Lib.hid h5
      have hB5 := HB2.out.trans (hf5.1.mono hs1)
      clear h5 hf5
      go_wp2_with (go_at_call 23; refine (wtext_of w1.heap.size Q.data.toList w5 H5 HQ0.out).mono ?_; rintro e w6 ⟨rfl, hb6⟩)
      go_ret
      exact ⟨ret_str (ba_eq (by simp)), hB5.trans (hb6.mono hs1)⟩
  · rw [if_neg h0] at hr
    have HE : Hid ((⟨#[]⟩ : ByteArray) = Q) := Lib.hid (ba_eq (by rw [← hr]))
    have b0 : (R != 0) = true := by simp [h0]
    clear hr h0
    go_enter Try.func9, Try.ntmps9
    go_wp2_with (go_at_call 21; refine (valid_of _ T R _ HT hc HR).mono ?_; rintro e w1 ⟨rfl, hb1⟩)
    go_ret
    exact ⟨ret_str HE.out, below_keep hb1 hB⟩
set_option maxRecDepth 100000 in
set_option maxHeartbeats 4000000 in
theorem cattrs_of (l : List Pr) (v : Value) (Q : ByteArray) (w : World) (h : Hid (Prs w v l)) (hl : l.length ≤ 40) (hq : Hid (atsT l = Q.data.toList)) :
    Calls Try.prog 11 #[v] w fun e w' => e = .returned (.string Q) ∧ Below w.heap.size w w' := by
  obtain ⟨ao, c, rfl, -, -, -⟩ := id h.out
  have hr := hq.out
  unfold atsT at hr
  have hB0 := al1 w (.cells #[.int .i64 1, .string ⟨#[97]⟩, .slice none 0 0, .slice ao l.length c, .slice none 0 0] 47)
  rcases Nat.eq_zero_or_pos l.length with h0 | h0
  · obtain rfl : l = [] := List.length_eq_zero_iff.1 h0
    have HE : Hid ((⟨#[]⟩ : ByteArray) = Q) := Lib.hid (ba_eq (by rw [← hr]; split <;> rfl))
    clear h hl hq h0 hr
    go_enter Try.func11, Try.ntmps11
    go_wp2
    go_ret
    exact ⟨ret_str HE.out, hB0⟩
  have hne : l ≠ [] := by intro e; rw [e] at h0; simp at h0
  have b0 : ((l.length : Int) == 0) = false := by rw [beq_eq_false_iff_ne]; omega
  obtain ⟨R, hR⟩ : ∃ R, validT (attTr l) = R := ⟨_, rfl⟩
  have HR := Lib.hid hR
  have hB := hB0.alloc (by simp) (.cells #[.int .i64 1, .string ⟨#[97]⟩, .slice none 0 0, .slice ao l.length c, .slice none 0 0] 47)
  have h5 := at5_new (w.alloc (.cells #[.int .i64 1, .string ⟨#[97]⟩, .slice none 0 0, .slice ao l.length c, .slice none 0 0] 47)) 1 ⟨#[97]⟩ (.slice none 0 0) (.slice ao l.length c) (.slice none 0 0) 47
  have hsz : (w.alloc (.cells #[.int .i64 1, .string ⟨#[97]⟩, .slice none 0 0, .slice ao l.length c, .slice none 0 0] 47)).heap.size = w.heap.size + 1 := by simp
  rw [hsz] at h5
  have HT : Hid (TrV ((w.alloc (.cells #[.int .i64 1, .string ⟨#[97]⟩, .slice none 0 0, .slice ao l.length c, .slice none 0 0] 47)).alloc (.cells #[.int .i64 1, .string ⟨#[97]⟩, .slice none 0 0, .slice ao l.length c, .slice none 0 0] 47)) (.agg #[.string ⟨#[103]⟩, .bool false, .slice (some ⟨w.heap.size + 1, 0, none⟩) 1 1]) (attTr l)) :=
    Lib.hid (row_att (h.out.keep hB) h5)
  rw [hR] at hr
  have hct := attTr_cnt l
  clear h5 hq hsz hB0
  by_cases hz : R = 0
  · subst hz
    rw [if_pos rfl] at hr
    have HO := Lib.hid (attTr_ok hR)
    have HQ : Hid (91 :: (attJ l ++ [93]) = Q.data.toList) := Lib.hid (by rw [← attS_join hne]; exact hr)
    clear hr hR hne h0
    go_enter Try.func11, Try.ntmps11
    go_wp2_with fail
    refine (valid_of _ (attTr l) 0 _ HT hct HR).mono ?_
    rintro e w1 ⟨rfl, hb1⟩
    have HP := Lib.hid (h.out.keep (below_keep hb1 hB))
    go_wp2_with (go_at_call 25; refine (clist_of l _ Q _ HP hl HO HQ).mono ?_; rintro e w2 ⟨rfl, hb2⟩)
    go_ret
    exact ⟨rfl, below_keep hb2 (below_keep hb1 hB)⟩
  · rw [if_neg hz] at hr
    have HE : Hid ((⟨#[]⟩ : ByteArray) = Q) := Lib.hid (ba_eq (by rw [← hr]))
    have b1 : (R != 0) = true := by simp [hz]
    clear hr hz hR hne h0
    go_enter Try.func11, Try.ntmps11
    go_wp2_with (go_at_call 21; refine (valid_of _ (attTr l) R _ HT hct HR).mono ?_; rintro e w1 ⟨rfl, hb1⟩)
    go_ret
    exact ⟨ret_str HE.out, below_keep hb1 hB⟩
end Go.Proofs.Ytmpjdlhigmofdaa.prt
namespace Go.Proofs.Ytmpjdlhigmofdaa.tre
open Go.RowKit lex

def T1 : Tr := ⟨[103], false, [.mk 2 [] [([97], []), ([98], [])] [] []]⟩
def T2 : Tr := ⟨[103], false, [.mk 2 [] [([97], [])] [] []]⟩
def T3 : Tr := ⟨[103], false, [.mk 1 [110, 111, 100, 101] [] [] []]⟩
def T4 : Tr := ⟨[103], false, [.mk 2 [] [([99], []), ([98], [])] [] []]⟩
theorem few1 : few T1.body = true := by simp [few, stmT, stmL_cons, stmL_nil, St.refs, St.attrs, St.body, T1]
theorem few2 : few T2.body = true := by simp [few, stmT, stmL_cons, stmL_nil, St.refs, St.attrs, St.body, T2]
theorem few3 : few T3.body = true := by simp [few, stmT, stmL_cons, stmL_nil, St.refs, St.attrs, St.body, T3]
theorem few4 : few T4.body = true := by simp [few, stmT, stmL_cons, stmL_nil, St.refs, St.attrs, St.body, T4]
theorem val1 : validT T1 = 0 := by decide
theorem val2 : validT T2 = 1 := by decide
theorem val3 : validT T3 = 5 := by decide
theorem ren1 : renE T1 [97] [98] = 6 := by decide
theorem ren2 : renE T1 [97] [99] = 0 := by decide
theorem out2 : renO T1 [97] [99] = T4 := by unfold renO; rw [if_pos ren2]; rfl
theorem cnt1 : (cnt T1.body : Int) = 1 := by decide
theorem nms1 : namesT T1 = [[97], [98]] := by decide
theorem nms4 : namesT T4 = [[99], [98]] := by decide
theorem add0 (b n : Nat) : (⟨b, 0, none⟩ : Addr).add (0 * n) = ⟨b, 0, none⟩ := by rw [Nat.zero_mul]; rfl
/-- A list of one statement in a block of its own. -/
theorem sts_one' {w : World} {b : Nat} {k : Int} {n : List UInt8} {rv av bv : Value} {r a : List Pr} {bd : List St} (h : at5 w b k (bb n) rv av bv) (hn : n.length ≤ maxLen) (hr : Prs w rv r) (ha : Prs w av a) (hb : Sts w bv bd) :
    Sts w (.slice (some ⟨b, 0, none⟩) 1 1) [.mk k n r a bd] := by
  obtain ⟨h0, h1, h2, h3, h4⟩ := h
  refine ⟨some ⟨b, 0, none⟩, 1, rfl, Nat.le_refl _, by decide, fun _ => ⟨_, rfl, ?_, trivial⟩⟩
  rw [add0]
  exact (stAt_eq _ _ _).2 ⟨h0, h1, hn, ⟨rv, h2, hr⟩, ⟨av, h3, ha⟩, bv, h4, hb⟩
theorem prs_one' (w : World) (x y : List UInt8) (t : TypeId) (hx : x.length ≤ maxLen) (hy : y.length ≤ maxLen) : Prs (w.alloc (.cells #[.string (bb x), .string (bb y)] t)) (.slice (some ⟨w.heap.size, 0, none⟩) 1 1) [(x, y)] := by
  refine ⟨some ⟨w.heap.size, 0, none⟩, 1, rfl, Nat.le_refl _, by decide, fun _ => ⟨_, rfl, fun i hi => ?_⟩⟩
  obtain rfl : i = 0 := by simpa using hi
  unfold prAt
  rw [add0]
  refine ⟨?_, ?_, hx, hy⟩ <;> go_simp <;> rfl
theorem prs_two (w : World) (x y z u : List UInt8) (t : TypeId) (hx : x.length ≤ maxLen) (hy : y.length ≤ maxLen) (hz : z.length ≤ maxLen) (hu : u.length ≤ maxLen) : Prs (w.alloc (.cells #[.string (bb x), .string (bb y), .string (bb z), .string (bb u)] t)) (.slice (some ⟨w.heap.size, 0, none⟩) 2 2) [(x, y), (z, u)] := by
  refine ⟨some ⟨w.heap.size, 0, none⟩, 2, rfl, Nat.le_refl _, by decide, fun _ => ⟨_, rfl, fun i hi => ?_⟩⟩
  have hi2 : i < 2 := hi
  obtain rfl | rfl : i = 0 ∨ i = 1 := by omega
  · unfold prAt
    rw [add0]
    refine ⟨?_, ?_, hx, hy⟩ <;> go_simp <;> rfl
  · unfold prAt
    rw [show (⟨w.heap.size, 0, none⟩ : Addr).add (1 * 2) = ⟨w.heap.size, 2, none⟩ from rfl]
    refine ⟨?_, ?_, hz, hu⟩ <;> go_simp <;> rfl
theorem nl_two (w : World) (x y : List UInt8) (t : TypeId) : Nl (w.alloc (.cells #[.string (bb x), .string (bb y)] t)) (.slice (some ⟨w.heap.size, 0, none⟩) 2 2) [x, y] := by
  refine ⟨some ⟨w.heap.size, 0, none⟩, 2, rfl, Nat.le_refl _, by decide, fun _ => ⟨_, rfl, fun i hi => ?_⟩⟩
  have hi2 : i < 2 := hi
  obtain rfl | rfl : i = 0 ∨ i = 1 := by omega
  · go_simp
  · rw [show (⟨w.heap.size, 0, none⟩ : Addr).add 1 = ⟨w.heap.size, 1, none⟩ from rfl]; go_simp
end Go.Proofs.Ytmpjdlhigmofdaa.tre
namespace Go.Proofs.Ytmpjdlhigmofdaa.prt
open Go.RowKit lex tre

abbrev exT : List UInt8 := ([100, 105, 103, 114, 97, 112, 104, 32, 103, 32, 123, 10, 32, 32, 32, 32, 97, 32, 91, 104, 101, 105, 103, 104, 116, 61, 49, 48, 44, 32, 108, 97, 98, 101, 108, 61, 34, 120, 32, 121, 34, 93, 59, 10, 32, 32, 32, 32, 97, 58, 112, 32, 45, 62, 32, 98, 59].append [10, 32, 32, 32, 32, 115, 101, 116, 32, 109, 111, 100, 101, 32, 61, 32, 116, 105, 100, 121, 59, 10, 32, 32, 32, 32, 99, 108, 117, 115, 116, 101, 114, 32, 99, 32, 123, 10, 32, 32, 32, 32, 32, 32, 32, 32, 98, 59, 10, 32, 32, 32, 32, 125, 10, 125, 10])
abbrev exL : List UInt8 := [91, 104, 101, 105, 103, 104, 116, 61, 49, 48, 44, 32, 108, 97, 98, 101, 108, 61, 34, 120, 32, 121, 34, 93]
def LA : List Pr := [([104, 101, 105, 103, 104, 116], [49, 48]), ([108, 97, 98, 101, 108], [120, 32, 121])]
def TA : Tr := ⟨[103], true, [.mk 1 [97] [] LA [], .mk 2 [] [([97], [112]), ([98], [])] [] [], .mk 4 [109, 111, 100, 101] [] [([], [116, 105, 100, 121])] [], .mk 5 [99] [] [] [.mk 1 [98] [] [] []]]⟩
def T0 : Tr := ⟨[], false, []⟩
theorem ta_txt : prtT prL TA = exT := by decide +kernel
theorem la_txt : atsT LA = exL := by decide +kernel
theorem t0_txt : prtT prL T0 = [] := by decide +kernel
theorem ta_cnt : cnt TA.body ≤ 600 := by decide +kernel
theorem ta_ok : okL TA.body := by
  unfold okL TA
  decide +kernel
theorem t0_ok : okL T0.body := fun x hx => by cases hx
/-- The world with the example. -/
def W6 (w : World) : World := (((((w.alloc (.cells #[.string ⟨#[104, 101, 105, 103, 104, 116]⟩, .string ⟨#[49, 48]⟩, .string ⟨#[108, 97, 98, 101, 108]⟩, .string ⟨#[120, 32, 121]⟩] 30)).alloc (.cells #[.string ⟨#[97]⟩, .string ⟨#[112]⟩, .string ⟨#[98]⟩, .string ⟨#[]⟩] 51)).alloc (.cells #[.string ⟨#[]⟩, .string ⟨#[116, 105, 100, 121]⟩] 30)).alloc
  (.cells #[.int .i64 1, .string ⟨#[98]⟩, .slice none 0 0, .slice none 0 0, .slice none 0 0] 47)).alloc
  (.cells #[.int .i64 1, .string ⟨#[97]⟩, .slice none 0 0, .slice (some ⟨w.heap.size, 0, none⟩) 2 2, .slice none 0 0, .int .i64 2, .string ⟨#[]⟩, .slice (some ⟨w.heap.size + 1, 0, none⟩) 2 2, .slice none 0 0, .slice none 0 0, .int .i64 4, .string ⟨#[109, 111, 100, 101]⟩, .slice none 0 0, .slice (some ⟨w.heap.size + 1 + 1, 0, none⟩) 1 1, .slice none 0 0, .int .i64 5, .string ⟨#[99]⟩, .slice none 0 0, .slice none 0 0, .slice (some ⟨w.heap.size + 1 + 1 + 1, 0, none⟩) 1 1] 47)).alloc
  (.cells #[.string ⟨#[103]⟩, .bool true, .slice (some ⟨w.heap.size + 1 + 1 + 1 + 1, 0, none⟩) 4 4] 24)
theorem prs_of1 {w : World} {g : Nat} {x y : List UInt8} {cs : Array Value} {t : TypeId} (h : w.heap[g]? = some (.cells cs t (0, 0))) (h0 : cs[0]? = some (.string (bb x))) (h1 : cs[1]? = some (.string (bb y))) (hx : x.length ≤ maxLen) (hy : y.length ≤ maxLen) : Prs w (.slice (some ⟨g, 0, none⟩) 1 1) [(x, y)] := by
  refine ⟨some ⟨g, 0, none⟩, 1, rfl, Nat.le_refl _, by decide, fun _ => ⟨_, rfl, fun i hi => ?_⟩⟩
  obtain rfl : i = 0 := by simpa using hi
  unfold prAt
  rw [add0]
  exact ⟨by rw [Lib.cell_of_heap h]; exact h0, by rw [Lib.cell_of_heap h]; exact h1, hx, hy⟩
theorem prs_of2 {w : World} {g : Nat} {x y z u : List UInt8} {cs : Array Value} {t : TypeId} (h : w.heap[g]? = some (.cells cs t (0, 0))) (h0 : cs[0]? = some (.string (bb x))) (h1 : cs[1]? = some (.string (bb y))) (h2 : cs[2]? = some (.string (bb z))) (h3 : cs[3]? = some (.string (bb u)))
    (hx : x.length ≤ maxLen) (hy : y.length ≤ maxLen) (hz : z.length ≤ maxLen) (hu : u.length ≤ maxLen) : Prs w (.slice (some ⟨g, 0, none⟩) 2 2) [(x, y), (z, u)] := by
  refine ⟨some ⟨g, 0, none⟩, 2, rfl, Nat.le_refl _, by decide, fun _ => ⟨_, rfl, fun i hi => ?_⟩⟩
  have hi2 : i < 2 := hi
  obtain rfl | rfl : i = 0 ∨ i = 1 := by omega
  · unfold prAt
    rw [add0]
    exact ⟨by rw [Lib.cell_of_heap h]; exact h0, by rw [Lib.cell_of_heap h]; exact h1, hx, hy⟩
  · unfold prAt
    rw [show (⟨g, 0, none⟩ : Addr).add (1 * 2) = ⟨g, 2, none⟩ from rfl]
    exact ⟨by rw [Lib.cell_of_heap h]; exact h2, by rw [Lib.cell_of_heap h]; exact h3, hz, hu⟩
theorem st_of {w : World} {g o : Nat} {k : Int} {n : List UInt8} {rv av bv : Value} {r a : List Pr} {bd : List St} {cs : Array Value} {t : TypeId} (h : w.heap[g]? = some (.cells cs t (0, 0))) (h0 : cs[o]? = some (.int .i64 k)) (h1 : cs[o + 1]? = some (.string (bb n))) (h2 : cs[o + 2]? = some rv) (h3 : cs[o + 3]? = some av) (h4 : cs[o + 4]? = some bv)
    (hn : n.length ≤ maxLen) (hr : Prs w rv r) (ha : Prs w av a) (hb : Sts w bv bd) : stAt w (.mk k n r a bd) ⟨g, o, none⟩ :=
  (stAt_eq _ _ _).2 ⟨by rw [Lib.cell_of_heap h]; exact h0, by rw [Lib.cell_of_heap h]; exact h1, hn, ⟨rv, by rw [Lib.cell_of_heap h]; exact h2, hr⟩, ⟨av, by rw [Lib.cell_of_heap h]; exact h3, ha⟩, bv, by rw [Lib.cell_of_heap h]; exact h4, hb⟩
theorem new_at {w A : World} {o : Obj} {n : Nat} (h : w.alloc o = A) (hs : w.heap.size = n) : A.heap[n]? = some o := by rw [← h, ← hs]; exact heap_alloc_new w o
theorem w6_facts (w : World) : Below w.heap.size w (W6 w) ∧ TrV (W6 w) (.agg #[.string ⟨#[103]⟩, .bool true, .slice (some ⟨w.heap.size + 1 + 1 + 1 + 1, 0, none⟩) 4 4]) TA ∧ Prs (W6 w) (.slice (some ⟨w.heap.size, 0, none⟩) 2 2) LA := by
  obtain ⟨A1, h1⟩ : ∃ A, w.alloc (.cells #[.string ⟨#[104, 101, 105, 103, 104, 116]⟩, .string ⟨#[49, 48]⟩, .string ⟨#[108, 97, 98, 101, 108]⟩, .string ⟨#[120, 32, 121]⟩] 30) = A := ⟨_, rfl⟩
  have s1 : A1.heap.size = w.heap.size + 1 := by rw [← h1, World.size_alloc]
  have k1 : Below w.heap.size w A1 := by rw [← h1]; exact al1 ..
  have g1 := new_at h1 rfl
  obtain ⟨A2, h2⟩ : ∃ A, A1.alloc (.cells #[.string ⟨#[97]⟩, .string ⟨#[112]⟩, .string ⟨#[98]⟩, .string ⟨#[]⟩] 51) = A := ⟨_, rfl⟩
  have s2 : A2.heap.size = w.heap.size + 1 + 1 := by rw [← h2, World.size_alloc, s1]
  have k2 : Below A1.heap.size A1 A2 := by rw [← h2]; exact al1 ..
  have g2 := new_at h2 s1
  obtain ⟨A3, h3⟩ : ∃ A, A2.alloc (.cells #[.string ⟨#[]⟩, .string ⟨#[116, 105, 100, 121]⟩] 30) = A := ⟨_, rfl⟩
  have s3 : A3.heap.size = w.heap.size + 1 + 1 + 1 := by rw [← h3, World.size_alloc, s2]
  have k3 : Below A2.heap.size A2 A3 := by rw [← h3]; exact al1 ..
  have g3 := new_at h3 s2
  obtain ⟨A4, h4⟩ : ∃ A, A3.alloc (.cells #[.int .i64 1, .string ⟨#[98]⟩, .slice none 0 0, .slice none 0 0, .slice none 0 0] 47) = A := ⟨_, rfl⟩
  have s4 : A4.heap.size = w.heap.size + 1 + 1 + 1 + 1 := by rw [← h4, World.size_alloc, s3]
  have k4 : Below A3.heap.size A3 A4 := by rw [← h4]; exact al1 ..
  have g4 := new_at h4 s3
  obtain ⟨A5, h5⟩ : ∃ A, A4.alloc (.cells #[.int .i64 1, .string ⟨#[97]⟩, .slice none 0 0, .slice (some ⟨w.heap.size, 0, none⟩) 2 2, .slice none 0 0, .int .i64 2, .string ⟨#[]⟩, .slice (some ⟨w.heap.size + 1, 0, none⟩) 2 2, .slice none 0 0, .slice none 0 0, .int .i64 4, .string ⟨#[109, 111, 100, 101]⟩, .slice none 0 0, .slice (some ⟨w.heap.size + 1 + 1, 0, none⟩) 1 1, .slice none 0 0, .int .i64 5, .string ⟨#[99]⟩, .slice none 0 0, .slice none 0 0, .slice (some ⟨w.heap.size + 1 + 1 + 1, 0, none⟩) 1 1] 47) = A := ⟨_, rfl⟩
  have k5 : Below A4.heap.size A4 A5 := by rw [← h5]; exact al1 ..
  have g5 := new_at h5 s4
  obtain ⟨A6, h6⟩ : ∃ A, A5.alloc (.cells #[.string ⟨#[103]⟩, .bool true, .slice (some ⟨w.heap.size + 1 + 1 + 1 + 1, 0, none⟩) 4 4] 24) = A := ⟨_, rfl⟩
  have k6 : Below A5.heap.size A5 A6 := by rw [← h6]; exact al1 ..
  have hW : W6 w = A6 := by unfold W6; rw [h1, h2, h3, h4, h5, h6]
  rw [hW]
  have j1 := heap_keep (heap_keep (heap_keep (heap_keep (heap_keep g1 k2) k3) k4) k5) k6
  have j2 := heap_keep (heap_keep (heap_keep (heap_keep g2 k3) k4) k5) k6
  have j3 := heap_keep (heap_keep (heap_keep g3 k4) k5) k6
  have j4 := heap_keep (heap_keep g4 k5) k6
  have j5 := heap_keep g5 k6
  have hb : Below w.heap.size w A6 := below_keep k6 (below_keep k5 (below_keep k4 (below_keep k3 (below_keep k2 k1))))
  clear h1 h2 h3 h4 h5 h6 g1 g2 g3 g4 g5 k1 k2 k3 k4 k5 k6 s1 s2 s3 s4 hW
  have pa : Prs A6 (.slice (some ⟨w.heap.size, 0, none⟩) 2 2) LA := prs_of2 j1 rfl rfl rfl rfl (by decide) (by decide) (by decide) (by decide)
  have pr : Prs A6 (.slice (some ⟨w.heap.size + 1, 0, none⟩) 2 2) [([97], [112]), ([98], [])] := prs_of2 j2 rfl rfl rfl rfl (by decide) (by decide) (by decide) (by decide)
  have pt : Prs A6 (.slice (some ⟨w.heap.size + 1 + 1, 0, none⟩) 1 1) [([], [116, 105, 100, 121])] := prs_of1 j3 rfl rfl (by decide) (by decide)
  have sb : Sts A6 (.slice (some ⟨w.heap.size + 1 + 1 + 1, 0, none⟩) 1 1) [.mk 1 [98] [] [] []] :=
    ⟨some ⟨w.heap.size + 1 + 1 + 1, 0, none⟩, 1, rfl, Nat.le_refl _, by decide, fun _ => ⟨_, rfl, st_of (o := 0) j4 rfl rfl rfl rfl rfl (by decide) (Prs.nil _) (Prs.nil _) (Sts.nil _), trivial⟩⟩
  refine ⟨hb, ⟨_, rfl, by decide, some ⟨w.heap.size + 1 + 1 + 1 + 1, 0, none⟩, 4, rfl, Nat.le_refl _, by decide, fun _ => ⟨_, rfl, ?_, ?_, ?_, ?_, trivial⟩⟩, pa⟩
  · exact st_of (o := 0) j5 rfl rfl rfl rfl rfl (by decide) (Prs.nil _) pa (Sts.nil _)
  · exact st_of (o := 5) j5 rfl rfl rfl rfl rfl (by decide) pr (Prs.nil _) (Sts.nil _)
  · exact st_of (o := 10) j5 rfl rfl rfl rfl rfl (by decide) (Prs.nil _) pt (Sts.nil _)
  · exact st_of (o := 15) j5 rfl rfl rfl rfl rfl (by decide) (Prs.nil _) (Prs.nil _) sb
end Go.Proofs.Ytmpjdlhigmofdaa.prt
namespace Go.Proofs.Ytmpjdlhigmofdaa.prt
open Go.RowKit lex tre

theorem t0_tree (w : World) : TrV w (.agg #[.string ⟨#[]⟩, .bool false, .slice none 0 0]) T0 := ⟨_, rfl, by decide, Sts.nil _⟩
set_option maxRecDepth 100000 in
set_option maxHeartbeats 4000000 in
theorem pawk (w : World) : Calls Try.prog 8 #[] w fun e w' => e = .returned (.bool true) ∧ Below w.heap.size w w' := by
  obtain ⟨hB, hT, hL⟩ := w6_facts w
  obtain ⟨Q, hQ⟩ : ∃ Q : ByteArray, (⟨exT.toArray⟩ : ByteArray) = Q := ⟨_, rfl⟩
  obtain ⟨P, hP⟩ : ∃ P : ByteArray, (⟨exL.toArray⟩ : ByteArray) = P := ⟨_, rfl⟩
  have HQ : Hid (prtT prL TA = Q.data.toList) := Lib.hid (by rw [← hQ, ta_txt])
  have HP : Hid (atsT LA = P.data.toList) := Lib.hid (by rw [← hP, la_txt])
  have hQz : Q.size ≤ 900000 := by rw [← hQ]; decide +kernel
  have HT := Lib.hid hT
  have HL := Lib.hid hL
  have q1 : Q.toList = [100, 105, 103, 114, 97, 112, 104, 32, 103, 32, 123, 10, 32, 32, 32, 32, 97, 32, 91, 104, 101, 105, 103, 104, 116, 61, 49, 48, 44, 32, 108, 97, 98, 101, 108, 61, 34, 120, 32, 121, 34, 93, 59, 10, 32, 32, 32, 32, 97, 58, 112, 32, 45, 62, 32, 98, 59, 10, 32, 32, 32, 32, 115, 101, 116, 32, 109, 111, 100, 101, 32, 61, 32, 116, 105, 100, 121, 59, 10, 32, 32, 32, 32, 99, 108, 117, 115, 116, 101, 114, 32, 99, 32, 123, 10, 32, 32, 32, 32, 32, 32, 32, 32, 98, 59, 10, 32, 32, 32, 32, 125, 10, 125, 10] := by rw [← hQ, ByteArray.toList_eq]; rfl
  have q2 : P.toList = [91, 104, 101, 105, 103, 104, 116, 61, 49, 48, 44, 32, 108, 97, 98, 101, 108, 61, 34, 120, 32, 121, 34, 93] := by rw [← hP, ByteArray.toList_eq]
  clear hQ hP hT hL
  go_enter Try.func8, Try.ntmps8
  go_wp2_with fail
  show Calls _ _ _ (W6 w) _
  refine (cprint_of TA _ Q (W6 w) HT ta_cnt (Lib.hid ta_ok) HQ hQz).mono ?_
  rintro e w1 ⟨rfl, hb1⟩
  have HL1 := Lib.hid (HL.out.keep hb1)
  have hB1 := below_keep hb1 hB
  go_wp2_with fail
  refine (cattrs_of LA _ P w1 HL1 (by decide) HP).mono ?_
  rintro e w2 ⟨rfl, hb2⟩
  have hB2 := below_keep hb2 hB1
  have HE : Hid (prtT prL T0 = (⟨#[]⟩ : ByteArray).data.toList) := Lib.hid (by rw [t0_txt])
  go_wp2_with fail
  refine (cprint_of T0 _ ⟨#[]⟩ w2 (Lib.hid (t0_tree w2)) (by decide) (Lib.hid t0_ok) HE (by decide)).mono ?_
  rintro e w3 ⟨rfl, hb3⟩
  have hB3 := below_keep hb3 hB2
  go_wp2
  go_ret
  exact ⟨rfl, hB3⟩
end Go.Proofs.Ytmpjdlhigmofdaa.prt
