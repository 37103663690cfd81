/-
  What stringToken of the lexer returns. Condition: a text of at most 20000 bytes, and not empty.
-/
import Derived.Test.YtmpjdlhigmofdaaMLa
namespace Go.Proofs.Ytmpjdlhigmofdaa
open Go.RowKit lex

/-- What is left to read of a string, behind a backslash or not, at place p. -/
def strE (e : Bool) (l o : List UInt8) (p : Nat) : List UInt8 × Nat × Int := strL (if e then 92 :: l else l) o (if e then p else p + 1)
theorem strE_end (e : Bool) (o : List UInt8) (p : Nat) : strE e [] o p = ([], 0, 3) := by
  cases e
  · exact strL_nil _ _
  · exact strL_esc0 _ _ rfl
theorem strE_lf (e : Bool) {c : UInt8} (t o : List UInt8) (p : Nat) (h : c.toNat = 10) : strE e (c :: t) o p = ([], 0, 3) := by
  cases e
  · exact strL_lf _ _ _ h
  · exact strL_esc1 _ _ _ rfl h
theorem strE_bad (e : Bool) {c : UInt8} (t o : List UInt8) (p : Nat) (h : c.toNat ≠ 10) (hp : isPl c = false) : strE e (c :: t) o p = ([], 0, 4) := by
  have : ¬ (32 ≤ c.toNat ∧ c.toNat ≤ 126) := by simpa [isPl] using hp
  cases e
  · exact strL_bad _ _ _ h hp
  · exact strL_esc2 _ _ _ rfl h ⟨by omega, by omega⟩
theorem strE_bad2 {c : UInt8} (t o : List UInt8) (p : Nat) (hp : isPl c = true) (h : ¬ (c.toNat = 34 ∨ c.toNat = 92)) : strE true (c :: t) o p = ([], 0, 4) := by
  have : 32 ≤ c.toNat ∧ c.toNat ≤ 126 := by simpa [isPl] using hp
  exact strL_esc2 _ _ _ rfl (by omega) ⟨by omega, by omega⟩
theorem strE_esc {c : UInt8} (t o : List UInt8) (p : Nat) (h : c.toNat = 92) : strE false (c :: t) o p = strE true t o (p + 1) := by
  obtain rfl : c = 92 := UInt8.toNat_inj.1 h
  rfl
theorem strE_close {c : UInt8} (t o : List UInt8) (p : Nat) (h : c.toNat = 34) : strE false (c :: t) o p = (o, p + 2, 0) := strL_end _ _ _ h
theorem strE_lim (e : Bool) {c : UInt8} (t o : List UInt8) (p : Nat) (hp : isPl c = true) (h : e = decide (c.toNat = 34 ∨ c.toNat = 92)) (hl : 32 < o.length + 1) : strE e (c :: t) o p = ([], 0, 2) := by
  cases e
  · have := of_decide_eq_false h.symm
    exact strL_lim _ _ _ (by omega) (by omega) hp hl
  · exact strL_esc3 _ _ _ rfl (of_decide_eq_true h.symm) hl
theorem strE_ok (e : Bool) {c : UInt8} (t o : List UInt8) (p : Nat) (hp : isPl c = true) (h : e = decide (c.toNat = 34 ∨ c.toNat = 92)) (hl : ¬ 32 < o.length + 1) : strE e (c :: t) o p = strE false t (o ++ [c]) (p + 1) := by
  cases e
  · have := of_decide_eq_false h.symm
    exact strL_ok _ _ _ (by omega) (by omega) hp hl
  · exact strL_esc4 _ _ _ rfl (of_decide_eq_true h.symm) hl
/-- The rune at a place, by the byte there. -/
theorem rune_at (s : ByteArray) (p : Nat) (h : p < s.size) : plN (Utf8.decode s p).1 = isPl s[p] ∧ ((Utf8.decode s p).1 = 10 ↔ s[p].toNat = 10) ∧ (isPl s[p] = true → (Utf8.decode s p).1 = s[p].toNat ∧ (Utf8.decode s p).2 = 1) ∧ (Utf8.decode s p).1 ≤ 1114111 ∧ 1 ≤ (Utf8.decode s p).2 := by
  have hle := Lib.rune_le s p
  by_cases hb : s[p].toNat < 128
  · rw [dec_lo s p h hb]
    exact ⟨rfl, Iff.rfl, fun _ => ⟨rfl, rfl⟩, by simp only; omega, Nat.le_refl _⟩
  · obtain ⟨d1, d2, _, _⟩ := dec_hi s p h (by omega)
    have hp : isPl s[p] = false := by simp [isPl]; omega
    rw [hp]
    exact ⟨by simp [plN]; omega, by omega, fun e => absurd e (by decide), hle, d2⟩
theorem out3 {t a : Tok} {n b : Nat} {e c : Int} (h : ((a, b, c) : Tok × Nat × Int) = (t, n, e)) : t = a ∧ n = b ∧ e = c := by
  simp only [Prod.mk.injEq] at h
  exact ⟨h.1.symm, h.2.1.symm, h.2.2.symm⟩
theorem byt_next {w : World} {B R : Nat} {b : UInt8} {v : Value} {o : List UInt8} (hb : R = b.toNat) (h : w.ownsRow B 5 1 v (o.length + 1) (Lib.byteCells o ++ [.int .u8 (R : Int)])) : Byt w B v (o ++ [b]) := by
  unfold Byt; rw [byt_snoc, List.length_append, ← hb]; exact h
/-- What a string's token is. -/
def strC (l : List UInt8) : Tok × Nat × Int := if (strL (l.drop 1) [] 1).2.2 = 0 then (⟨4, (strL (l.drop 1) [] 1).1, 0, 0⟩, (strL (l.drop 1) [] 1).2.1, 0) else (zeroT, 0, (strL (l.drop 1) [] 1).2.2)
def strR (r : List UInt8 × Nat × Int) : Tok × Nat × Int := if r.2.2 = 0 then (⟨4, r.1, 0, 0⟩, r.2.1, 0) else (zeroT, 0, r.2.2)
set_option maxRecDepth 100000 in
set_option maxHeartbeats 8000000 in
theorem stringToken_of (s : ByteArray) (t : Tok) (n : Nat) (e0 : Int) (w : World) (hs : s.size ≤ 20000) (h1 : 1 ≤ s.size) (h : Hid (strR (strL (s.data.toList.drop 1) [] 1) = (t, n, e0))) :
    Calls Try.prog 55 #[.string s] w (TkOut t n e0 w) := by
  obtain ⟨i0, hi, hz0, hz1, hz2⟩ := info_byte
  have hS := drop_extract s 1
  have hSz : (s.extract 1 s.size).size = s.size - 1 := by rw [← size_list, hS, List.length_drop, size_list]
  rw [← hS] at h
  obtain ⟨S, hSe⟩ : ∃ S, s.extract 1 s.size = S := ⟨_, rfl⟩
  have HSE := Lib.hid hSe
  rw [hSe] at h hSz
  have hSs : S.size ≤ 20000 := by omega
  have H0 : Hid (strR (strE false (S.data.toList.drop 0) [] 0) = (t, n, e0)) := h
  clear hS hSe h hSz
  go_enter Try.func55, Try.ntmps55
  go_wp2_with fail
  rw [HSE.out]
  clear HSE
  go_loopg [5, 6] S.size (fun gf out esc wx => ∃ (p : Nat) (o : List UInt8) (e : Bool), esc = .bool e ∧ p ≤ S.size ∧ S.size ≤ p + gf ∧ o.length ≤ 32 ∧
    wx.heap[w.heap.size + 1]? = some (.stringIter S p) ∧ wx.heap[w.heap.size]? = some (.cells #[.int .i64 0, .string ⟨#[]⟩, .int .i64 0, .int .i64 0] 68 (0, 0)) ∧ Byt wx (w.heap.size + 2) out o ∧ Below w.heap.size w wx ∧
    strR (strE e (S.data.toList.drop p) o p) = (t, n, e0))
  case atStart =>
    refine ⟨0, [], false, rfl, Nat.zero_le _, by omega, Nat.zero_le _, ?_, ?_, Byt.nil _ _, (al1 ..).alloc (by simp) _, H0.out⟩
    · simpa using World.iter_heap (w.alloc (.cells #[.int .i64 0, .string ⟨#[]⟩, .int .i64 0, .int .i64 0] 68)) S 0
    · exact alloc_block _ (heap_alloc_new w _)
  case round =>
    obtain ⟨p, o, e, rfl, hp, hfu, hol, hit, hcl, hby, hB, hr⟩ := hrel
    clear H0
    have HR := Lib.hid hr
    have hsw : w.heap.size + 1 < wr.heap.size := (Array.getElem?_eq_some_iff.1 hit).1
    clear hr
    by_cases hps : p < S.size
    · obtain ⟨g', rfl⟩ : ∃ g', gk = g' + 1 := ⟨gk - 1, by omega⟩
      have hnx : ∀ ty, (Instr.next (.pointer (some ⟨w.heap.size + 1, 0, none⟩)) true ty).run Try.prog wr = _ := fun ty => Lib.run_next_any_at wr (w.heap.size + 1) S p ty hit hps
      obtain ⟨r1, r2, r3, r4, r5⟩ := rune_at S p hps
      have HD := Lib.hid (drop_at hps)
      obtain ⟨R, hR⟩ : ∃ R, (Utf8.decode S p).1 = R := ⟨_, rfl⟩
      obtain ⟨K, hK⟩ : ∃ K, (Utf8.decode S p).2 = K := ⟨_, rfl⟩
      rw [hR, hK] at hnx r3
      rw [hR] at r1 r2 r4
      rw [hK] at r5
      have hit2 := Lib.iterAt_heap wr (w.heap.size + 1) S p (p + K) hit
      have hcl2 := (Lib.iterAt_other wr (w.heap.size + 1) w.heap.size S (p + K) (by omega)).trans hcl
      have hby2 := hby.iterAt (by omega : w.heap.size + 1 < w.heap.size + 2) S (p + K)
      have hB2 := Lib.below_iterAt hB (k := w.heap.size + 1) (by omega) S (p + K)
      have hs2 : w.heap.size + 1 < (wr.iterAt (w.heap.size + 1) S (p + K)).heap.size := by rw [Lib.iterAt_size]; exact hsw
      obtain ⟨W, hW⟩ : ∃ W, wr.iterAt (w.heap.size + 1) S (p + K) = W := ⟨_, rfl⟩
      rw [hW] at hnx hit2 hcl2 hby2 hB2 hs2
      clear hit hcl hby hB hW hR hK hsw
      obtain ⟨c0, c1, c2, c3, f0, f1, f2, f3⟩ := owT_heap hcl2
      by_cases c10 : R = 10
      · have b0 : ((R : Int) == 10) = true := by rw [beq_iff_eq]; omega
        obtain ⟨rfl, rfl, rfl⟩ : t = zeroT ∧ n = 0 ∧ e0 = 3 := by
          have := HR.out; rw [HD.out, strE_lf _ _ _ _ (r2.1 c10)] at this; exact out3 this
        clear c10 r1 r2 r3
        go_wp2
        exact bodyPost_ret (v := .tuple #[tkV zeroT, .int .i64 0, .int .i64 3]) (by simp [results, Try.results55, go_sem, c0, c1, c2, c3]) rfl ⟨rfl, set4 hB2 (by omega)⟩
      · have b0 : ((R : Int) == 10) = false := by rw [beq_eq_false_iff_ne]; omega
        cases hpl : isPl S[p]
        · obtain ⟨rfl, rfl, rfl⟩ : t = zeroT ∧ n = 0 ∧ e0 = 4 := by
            have := HR.out; rw [HD.out, strE_bad _ _ _ _ (fun h => c10 (r2.2 h)) hpl] at this; exact out3 this
          have HP : Hid (plN R = false) := Lib.hid (by rw [r1, hpl])
          clear c10 r1 r2 r3 hpl
          go_wp2_with (go_at_call 87; refine (isPrintable_of _ _ _ HP).mono ?_; rintro e w' ⟨rfl, rfl⟩)
          exact bodyPost_ret (v := .tuple #[tkV zeroT, .int .i64 0, .int .i64 4]) (by simp [results, Try.results55, go_sem, c0, c1, c2, c3]) rfl ⟨rfl, set4 hB2 (by omega)⟩
        · obtain ⟨rb, rfl⟩ := r3 hpl
          have HP : Hid (plN R = true) := Lib.hid (by rw [r1, hpl])
          obtain ⟨x, hx⟩ : ∃ x, esN R = x := ⟨_, rfl⟩
          have HX := Lib.hid hx
          have hx2 : x = decide (S[p].toNat = 34 ∨ S[p].toNat = 92) := by rw [← hx, ← rb]; rfl
          by_cases hbad : e = true ∧ x = false
          · obtain ⟨rfl, rfl⟩ := hbad
            obtain ⟨rfl, rfl, rfl⟩ : t = zeroT ∧ n = 0 ∧ e0 = 4 := by
              have := HR.out; rw [HD.out, strE_bad2 _ _ _ hpl (of_decide_eq_false hx2.symm)] at this; exact out3 this
            clear c10 r1 r2 r3 hpl hx hx2 rb
            go_wp2_with (first | (go_at_call 87; refine (isPrintable_of _ _ _ HP).mono ?_; rintro e w' ⟨rfl, rfl⟩) | (go_at_call 88; refine (isEscaped_of _ _ _ HX).mono ?_; rintro e w' ⟨rfl, rfl⟩))
            exact bodyPost_ret (v := .tuple #[tkV zeroT, .int .i64 0, .int .i64 4]) (by simp [results, Try.results55, go_sem, c0, c1, c2, c3]) rfl ⟨rfl, set4 hB2 (by omega)⟩
          · by_cases h92 : e = false ∧ R = 92
            · obtain ⟨rfl, h92⟩ := h92
              have b1 : ((R : Int) == 92) = true := by rw [beq_iff_eq]; omega
              have HN := Lib.hid (by have := HR.out; rw [HD.out, strE_esc _ _ _ (by omega)] at this; exact this : strR (strE true (S.data.toList.drop (p + 1)) o (p + 1)) = (t, n, e0))
              clear c10 r1 r2 r3 hpl hx hx2 rb hbad h92
              go_wp2_with (first | (go_at_call 87; refine (isPrintable_of _ _ _ HP).mono ?_; rintro e w' ⟨rfl, rfl⟩) | (go_at_call 88; refine (isEscaped_of _ _ _ HX).mono ?_; rintro e w' ⟨rfl, rfl⟩))
              go_roundg g'
              case measure => omega
              case rel => exact ⟨p + 1, o, true, rfl, by omega, by omega, hol, hit2, hcl2, hby2, hB2, HN.out⟩
            · by_cases h34 : e = false ∧ R = 34
              · obtain ⟨rfl, h34⟩ := h34
                have b1 : ((R : Int) == 92) = false := by rw [beq_eq_false_iff_ne]; omega
                have b2 : ((R : Int) == 34) = true := by rw [beq_iff_eq]; omega
                have HN : Hid (t = ⟨4, o, 0, 0⟩ ∧ n = p + 2 ∧ e0 = 0) := Lib.hid (by have := HR.out; rw [HD.out, strE_close _ _ _ (by omega)] at this; exact out3 this)
                have hcv := hby2.conv
                clear c10 r1 r2 r3 hpl hx hx2 rb hbad h92 h34
                go_wp2_with (first | (go_at_call 87; refine (isPrintable_of _ _ _ HP).mono ?_; rintro e w' ⟨rfl, rfl⟩) | (go_at_call 88; refine (isEscaped_of _ _ _ HX).mono ?_; rintro e w' ⟨rfl, rfl⟩))
                refine bodyPost_ret (v := .tuple #[.agg #[.int .i64 4, .string (ba o), .int .i64 0, .int .i64 0], .int .i64 (1 + (p : Int) + 1), .int .i64 0]) (by simp [results, Try.results55, go_sem, c0, c1, c2, c3]) rfl ⟨?_, set4 hB2 (by omega)⟩
                obtain ⟨q1, q2, q3⟩ := HN.out
                subst q1 q2 q3
                rw [show (1 + (p : Int) + 1) = ((p + 2 : Nat) : Int) by omega]
              · have hxe : e = x := by
                  cases e
                  · cases x
                    · rfl
                    · rcases of_decide_eq_true hx2.symm with q | q
                      · exact absurd ⟨rfl, by omega⟩ h34
                      · exact absurd ⟨rfl, by omega⟩ h92
                  · cases x
                    · exact absurd ⟨rfl, rfl⟩ hbad
                    · rfl
                have hxd := hxe.trans hx2
                have HRB := Lib.hid rb
                have hR255 : R ≤ 255 := by have := S[p].toNat_lt; omega
                have HBY := Lib.hid hby2
                have hway : (e = false ∧ ((R : Int) == 92) = false ∧ ((R : Int) == 34) = false) ∨ (e = true ∧ ((R : Int) == 92) = false ∧ ((R : Int) == 34) = true) ∨ (e = true ∧ ((R : Int) == 92) = true ∧ ((R : Int) == 34) = false) := by
                  cases e
                  · refine Or.inl ⟨rfl, ?_, ?_⟩ <;> rw [beq_eq_false_iff_ne]
                    · intro h; exact h92 ⟨rfl, by omega⟩
                    · intro h; exact h34 ⟨rfl, by omega⟩
                  · rcases of_decide_eq_true hxd.symm with q | q
                    · refine Or.inr (Or.inl ⟨rfl, ?_, ?_⟩)
                      · rw [beq_eq_false_iff_ne]; omega
                      · rw [beq_iff_eq]; omega
                    · refine Or.inr (Or.inr ⟨rfl, ?_, ?_⟩)
                      · rw [beq_iff_eq]; omega
                      · rw [beq_eq_false_iff_ne]; omega
                by_cases hl : 32 < o.length + 1
                · have HN : Hid (t = zeroT ∧ n = 0 ∧ e0 = 2) := Lib.hid (by have := HR.out; rw [HD.out, strE_lim _ _ _ _ hpl hxd hl] at this; exact out3 this)
                  obtain ⟨rfl, rfl, rfl⟩ := HN.out
                  have hli : (32 : Int) < (o.length : Int) + 1 := by omega
                  subst hxe
                  clear c10 r1 r2 r3 hpl hx hx2 rb hbad h92 h34 hxd hl HN
                  rcases hway with ⟨rfl, b1, b2⟩ | ⟨rfl, b1, b2⟩ | ⟨rfl, b1, b2⟩
                  all_goals
                    go_wp2_with (first | (go_at_call 87; refine (isPrintable_of _ _ _ HP).mono ?_; rintro e w' ⟨rfl, rfl⟩) | (go_at_call 88; refine (isEscaped_of _ _ _ HX).mono ?_; rintro e w' ⟨rfl, rfl⟩) | (at_builtin; refine wpList_append_own _ rfl (.tmp 51) (.tmp 54) 53 rfl (w.heap.size + 2) 5 i0 (.int .u8 0) 1 1 Try.underlying53 hi hz0 hz1 hz2 rfl (by decide) _ _ _ rfl (World.ownsRow.alloc HBY.out _) ⟨W.heap.size, 0, none⟩ 1 1 [.int .u8 (R : Int)] rfl rfl (cell1_new _ _ _) (by simp [Value.oneCell']) (by unfold maxLen; omega) (by omega) (by simp; omega) ?_; intro v3 w3 hown3 hgrow3 _; have hby3 := byt_next HRB.out hown3; have hit3 := grown_block (w := W.alloc _) (World.ownsRow.alloc HBY.out _) hgrow3 (by omega) (alloc_block _ hit2); have hcl3 := grown_block (w := W.alloc _) (World.ownsRow.alloc HBY.out _) hgrow3 (by omega) (alloc_block _ hcl2); have hB3 := (hB2.alloc (by omega) (.cells #[.int .u8 (R : Int)] 5)).grown hgrow3 (by simp; omega) (fun q hq => by have := (World.ownsRow.lt (World.ownsRow.alloc HBY.out (.cells #[.int .u8 (R : Int)] 5)) q hq).1; omega); obtain ⟨d0, d1, d2, d3, g0, g1, g2, g3⟩ := owT_heap hcl3; have HBY3 := Lib.hid hby3; obtain ⟨a3, cap3, rfl, hc3, hm3⟩ := hby3.len; clear hby3 hown3 hgrow3; simp only [List.length_append, List.length_cons, List.length_nil] at hc3 HBY3 ⊢))
                    exact bodyPost_ret (v := .tuple #[tkV zeroT, .int .i64 0, .int .i64 2]) (by simp [results, Try.results55, go_sem, d0, d1, d2, d3]) rfl ⟨rfl, set4 hB3 (by omega)⟩
                · have HN : Hid (strR (strE false (S.data.toList.drop (p + 1)) (o ++ [S[p]]) (p + 1)) = (t, n, e0)) := Lib.hid (by have := HR.out; rw [HD.out, strE_ok _ _ _ _ hpl hxd hl] at this; exact this)
                  have hli : ¬ (32 : Int) < (o.length : Int) + 1 := by omega
                  subst hxe
                  clear c10 r1 r2 r3 hpl hx hx2 rb hbad h92 h34 hxd hl
                  rcases hway with ⟨rfl, b1, b2⟩ | ⟨rfl, b1, b2⟩ | ⟨rfl, b1, b2⟩
                  all_goals
                    go_wp2_with (first | (go_at_call 87; refine (isPrintable_of _ _ _ HP).mono ?_; rintro e w' ⟨rfl, rfl⟩) | (go_at_call 88; refine (isEscaped_of _ _ _ HX).mono ?_; rintro e w' ⟨rfl, rfl⟩) | (at_builtin; refine wpList_append_own _ rfl (.tmp 51) (.tmp 54) 53 rfl (w.heap.size + 2) 5 i0 (.int .u8 0) 1 1 Try.underlying53 hi hz0 hz1 hz2 rfl (by decide) _ _ _ rfl (World.ownsRow.alloc HBY.out _) ⟨W.heap.size, 0, none⟩ 1 1 [.int .u8 (R : Int)] rfl rfl (cell1_new _ _ _) (by simp [Value.oneCell']) (by unfold maxLen; omega) (by omega) (by simp; omega) ?_; intro v3 w3 hown3 hgrow3 _; have hby3 := byt_next HRB.out hown3; have hit3 := grown_block (w := W.alloc _) (World.ownsRow.alloc HBY.out _) hgrow3 (by omega) (alloc_block _ hit2); have hcl3 := grown_block (w := W.alloc _) (World.ownsRow.alloc HBY.out _) hgrow3 (by omega) (alloc_block _ hcl2); have hB3 := (hB2.alloc (by omega) (.cells #[.int .u8 (R : Int)] 5)).grown hgrow3 (by simp; omega) (fun q hq => by have := (World.ownsRow.lt (World.ownsRow.alloc HBY.out (.cells #[.int .u8 (R : Int)] 5)) q hq).1; omega); obtain ⟨d0, d1, d2, d3, g0, g1, g2, g3⟩ := owT_heap hcl3; have HBY3 := Lib.hid hby3; obtain ⟨a3, cap3, rfl, hc3, hm3⟩ := hby3.len; clear hby3 hown3 hgrow3; simp only [List.length_append, List.length_cons, List.length_nil] at hc3 HBY3 ⊢))
                    go_roundg g'
                    case measure => omega
                    case rel => exact ⟨p + 1, o ++ [S[p]], false, rfl, by omega, by omega, by rw [List.length_append]; simp; omega, hit3, hcl3, HBY3.out, hB3, HN.out⟩
    · obtain rfl : p = S.size := by omega
      have hnx : ∀ ty, (Instr.next (.pointer (some ⟨w.heap.size + 1, 0, none⟩)) true ty).run Try.prog wr = _ := fun ty => Lib.run_next_end_at wr (w.heap.size + 1) S S.size ty hit hps
      obtain ⟨rfl, rfl, rfl⟩ : t = zeroT ∧ n = 0 ∧ e0 = 3 := by
        have := HR.out; rw [drop_end (Nat.le_refl _), strE_end] at this; exact out3 this
      obtain ⟨c0, c1, c2, c3, f0, f1, f2, f3⟩ := owT_heap hcl
      clear hit hcl
      go_wp2
      exact bodyPost_ret (v := .tuple #[tkV zeroT, .int .i64 0, .int .i64 3]) (by simp [results, Try.results55, go_sem, c0, c1, c2, c3]) rfl ⟨rfl, set4 hB (by omega)⟩
end Go.Proofs.Ytmpjdlhigmofdaa
