/-
  What stringToken of the lexer returns. Condition: a text of at most 20000 bytes, and not empty.
  What leadingToken of the lexer returns. Condition: a text of at most 20000 bytes, and not empty.
  What Tokenize of the lexer returns. Condition: a text's length.
-/
import Derived.Test.YtgccheiemnpaoaaGreatDoorMLa
namespace Go.Proofs.YtgccheiemnpaoaaGreatDoor
open Go.RowKit lex

/-- What is left to read of a string, behind a backslash or not, at place p. -/
def strE (e : Bool) (l o : List UInt8) (p : Nat) : List UInt8 × Nat × Int := strL (if e then 92 :: l else l) o (if e then p else p + 1)
theorem strE_end (e : Bool) (o : List UInt8) (p : Nat) : strE e [] o p = ([], 0, 3) := by
  cases e
  · exact strL_nil _ _
  · exact strL_esc0 _ _ rfl
theorem strE_lf (e : Bool) {c : UInt8} (t o : List UInt8) (p : Nat) (h : c.toNat = 10) : strE e (c :: t) o p = ([], 0, 3) := by
  cases e
  · exact strL_lf _ _ _ h
  · exact strL_esc1 _ _ _ rfl h
theorem strE_bad (e : Bool) {c : UInt8} (t o : List UInt8) (p : Nat) (h : c.toNat ≠ 10) (hp : isPl c = false) : strE e (c :: t) o p = ([], 0, 4) := by
  have : ¬ (32 ≤ c.toNat ∧ c.toNat ≤ 126) := by simpa [isPl] using hp
  cases e
  · exact strL_bad _ _ _ h hp
  · exact strL_esc2 _ _ _ rfl h ⟨by omega, by omega⟩
theorem strE_bad2 {c : UInt8} (t o : List UInt8) (p : Nat) (hp : isPl c = true) (h : ¬ (c.toNat = 34 ∨ c.toNat = 92)) : strE true (c :: t) o p = ([], 0, 4) := by
  have : 32 ≤ c.toNat ∧ c.toNat ≤ 126 := by simpa [isPl] using hp
  exact strL_esc2 _ _ _ rfl (by omega) ⟨by omega, by omega⟩
theorem strE_esc {c : UInt8} (t o : List UInt8) (p : Nat) (h : c.toNat = 92) : strE false (c :: t) o p = strE true t o (p + 1) := by
  obtain rfl : c = 92 := UInt8.toNat_inj.1 h
  rfl
theorem strE_close {c : UInt8} (t o : List UInt8) (p : Nat) (h : c.toNat = 34) : strE false (c :: t) o p = (o, p + 2, 0) := strL_end _ _ _ h
theorem strE_lim (e : Bool) {c : UInt8} (t o : List UInt8) (p : Nat) (hp : isPl c = true) (h : e = decide (c.toNat = 34 ∨ c.toNat = 92)) (hl : 32 < o.length + 1) : strE e (c :: t) o p = ([], 0, 2) := by
  cases e
  · have := of_decide_eq_false h.symm
    exact strL_lim _ _ _ (by omega) (by omega) hp hl
  · exact strL_esc3 _ _ _ rfl (of_decide_eq_true h.symm) hl
theorem strE_ok (e : Bool) {c : UInt8} (t o : List UInt8) (p : Nat) (hp : isPl c = true) (h : e = decide (c.toNat = 34 ∨ c.toNat = 92)) (hl : ¬ 32 < o.length + 1) : strE e (c :: t) o p = strE false t (o ++ [c]) (p + 1) := by
  cases e
  · have := of_decide_eq_false h.symm
    exact strL_ok _ _ _ (by omega) (by omega) hp hl
  · exact strL_esc4 _ _ _ rfl (of_decide_eq_true h.symm) hl
/-- The rune at a place, by the byte there. -/
theorem rune_at (s : ByteArray) (p : Nat) (h : p < s.size) : plN (Utf8.decode s p).1 = isPl s[p] ∧ ((Utf8.decode s p).1 = 10 ↔ s[p].toNat = 10) ∧ (isPl s[p] = true → (Utf8.decode s p).1 = s[p].toNat ∧ (Utf8.decode s p).2 = 1) ∧ (Utf8.decode s p).1 ≤ 1114111 ∧ 1 ≤ (Utf8.decode s p).2 := by
  have hle := Lib.rune_le s p
  by_cases hb : s[p].toNat < 128
  · rw [dec_lo s p h hb]
    exact ⟨rfl, Iff.rfl, fun _ => ⟨rfl, rfl⟩, by simp only; omega, Nat.le_refl _⟩
  · obtain ⟨d1, d2, _, _⟩ := dec_hi s p h (by omega)
    have hp : isPl s[p] = false := by simp [isPl]; omega
    rw [hp]
    exact ⟨by simp [plN]; omega, by omega, fun e => absurd e (by decide), hle, d2⟩
theorem out3 {t a : Tok} {n b : Nat} {e c : Int} (h : ((a, b, c) : Tok × Nat × Int) = (t, n, e)) : t = a ∧ n = b ∧ e = c := by
  simp only [Prod.mk.injEq] at h
  exact ⟨h.1.symm, h.2.1.symm, h.2.2.symm⟩
theorem byt_next {w : World} {B R : Nat} {b : UInt8} {v : Value} {o : List UInt8} (hb : R = b.toNat) (h : w.ownsRow B 5 1 v (o.length + 1) (Lib.byteCells o ++ [.int .u8 (R : Int)])) : Byt w B v (o ++ [b]) := by
  unfold Byt; rw [byt_snoc, List.length_append, ← hb]; exact h
/-- What a string's token is. -/
def strC (l : List UInt8) : Tok × Nat × Int := if (strL (l.drop 1) [] 1).2.2 = 0 then (⟨4, (strL (l.drop 1) [] 1).1, 0, 0⟩, (strL (l.drop 1) [] 1).2.1, 0) else (zeroT, 0, (strL (l.drop 1) [] 1).2.2)
def strR (r : List UInt8 × Nat × Int) : Tok × Nat × Int := if r.2.2 = 0 then (⟨4, r.1, 0, 0⟩, r.2.1, 0) else (zeroT, 0, r.2.2)
set_option maxRecDepth 100000 in
set_option maxHeartbeats 8000000 in
theorem stringToken_of (s : ByteArray) (t : Tok) (n : Nat) (e0 : Int) (w : World) (hs : s.size ≤ 20000) (h1 : 1 ≤ s.size) (h : Hid (strR (strL (s.data.toList.drop 1) [] 1) = (t, n, e0))) :
    Calls Tryz.prog 64 #[.string s] w (TkOut t n e0 w) := by
  obtain ⟨i0, hi, hz0, hz1, hz2⟩ := info_byte
  have hS := drop_extract s 1
  have hSz : (s.extract 1 s.size).size = s.size - 1 := by rw [← size_list, hS, List.length_drop, size_list]
  rw [← hS] at h
  obtain ⟨S, hSe⟩ : ∃ S, s.extract 1 s.size = S := ⟨_, rfl⟩
  have HSE := Lib.hid hSe
  rw [hSe] at h hSz
  have hSs : S.size ≤ 20000 := by omega
  have H0 : Hid (strR (strE false (S.data.toList.drop 0) [] 0) = (t, n, e0)) := h
  clear hS hSe h hSz
  go_enter Tryz.func64, Tryz.ntmps64
  go_wp2_with fail
  rw [HSE.out]
  clear HSE
  go_loopg [5, 6] S.size (fun gf out esc wx => ∃ (p : Nat) (o : List UInt8) (e : Bool), esc = .bool e ∧ p ≤ S.size ∧ S.size ≤ p + gf ∧ o.length ≤ 32 ∧
    wx.heap[w.heap.size + 1]? = some (.stringIter S p) ∧ wx.heap[w.heap.size]? = some (.cells #[.int .i64 0, .string ⟨#[]⟩, .int .i64 0, .int .i64 0] 81 (0, 0)) ∧ Byt wx (w.heap.size + 2) out o ∧ Below w.heap.size w wx ∧
    strR (strE e (S.data.toList.drop p) o p) = (t, n, e0))
  case atStart =>
    refine ⟨0, [], false, rfl, Nat.zero_le _, by omega, Nat.zero_le _, ?_, ?_, Byt.nil _ _, (al1 ..).alloc (by simp) _, H0.out⟩
    · simpa using World.iter_heap (w.alloc (.cells #[.int .i64 0, .string ⟨#[]⟩, .int .i64 0, .int .i64 0] 81)) S 0
    · exact alloc_block _ (heap_alloc_new w _)
  case round =>
    obtain ⟨p, o, e, rfl, hp, hfu, hol, hit, hcl, hby, hB, hr⟩ := hrel
    clear H0
    have HR := Lib.hid hr
    have hsw : w.heap.size + 1 < wr.heap.size := (Array.getElem?_eq_some_iff.1 hit).1
    clear hr
    by_cases hps : p < S.size
    · obtain ⟨g', rfl⟩ : ∃ g', gk = g' + 1 := ⟨gk - 1, by omega⟩
      have hnx : ∀ ty, (Instr.next (.pointer (some ⟨w.heap.size + 1, 0, none⟩)) true ty).run Tryz.prog wr = _ := fun ty => Lib.run_next_any_at wr (w.heap.size + 1) S p ty hit hps
      obtain ⟨r1, r2, r3, r4, r5⟩ := rune_at S p hps
      have HD := Lib.hid (drop_at hps)
      obtain ⟨R, hR⟩ : ∃ R, (Utf8.decode S p).1 = R := ⟨_, rfl⟩
      obtain ⟨K, hK⟩ : ∃ K, (Utf8.decode S p).2 = K := ⟨_, rfl⟩
      rw [hR, hK] at hnx r3
      rw [hR] at r1 r2 r4
      rw [hK] at r5
      have hit2 := Lib.iterAt_heap wr (w.heap.size + 1) S p (p + K) hit
      have hcl2 := (Lib.iterAt_other wr (w.heap.size + 1) w.heap.size S (p + K) (by omega)).trans hcl
      have hby2 := hby.iterAt (by omega : w.heap.size + 1 < w.heap.size + 2) S (p + K)
      have hB2 := Lib.below_iterAt hB (k := w.heap.size + 1) (by omega) S (p + K)
      have hs2 : w.heap.size + 1 < (wr.iterAt (w.heap.size + 1) S (p + K)).heap.size := by rw [Lib.iterAt_size]; exact hsw
      obtain ⟨W, hW⟩ : ∃ W, wr.iterAt (w.heap.size + 1) S (p + K) = W := ⟨_, rfl⟩
      rw [hW] at hnx hit2 hcl2 hby2 hB2 hs2
      clear hit hcl hby hB hW hR hK hsw
      obtain ⟨c0, c1, c2, c3, f0, f1, f2, f3⟩ := owT_heap hcl2
      by_cases c10 : R = 10
      · have b0 : ((R : Int) == 10) = true := by rw [beq_iff_eq]; omega
        obtain ⟨rfl, rfl, rfl⟩ : t = zeroT ∧ n = 0 ∧ e0 = 3 := by
          have := HR.out; rw [HD.out, strE_lf _ _ _ _ (r2.1 c10)] at this; exact out3 this
        clear c10 r1 r2 r3
        go_wp2
        exact bodyPost_ret (v := .tuple #[tkV zeroT, .int .i64 0, .int .i64 3]) (by simp [results, Tryz.results64, go_sem, c0, c1, c2, c3]) rfl ⟨rfl, set4 hB2 (by omega)⟩
      · have b0 : ((R : Int) == 10) = false := by rw [beq_eq_false_iff_ne]; omega
        cases hpl : isPl S[p]
        · obtain ⟨rfl, rfl, rfl⟩ : t = zeroT ∧ n = 0 ∧ e0 = 4 := by
            have := HR.out; rw [HD.out, strE_bad _ _ _ _ (fun h => c10 (r2.2 h)) hpl] at this; exact out3 this
          have HP : Hid (plN R = false) := Lib.hid (by rw [r1, hpl])
          clear c10 r1 r2 r3 hpl
          go_wp2_with (go_at_call 86; refine (isPrintable_of _ _ _ HP).mono ?_; rintro e w' ⟨rfl, rfl⟩)
          exact bodyPost_ret (v := .tuple #[tkV zeroT, .int .i64 0, .int .i64 4]) (by simp [results, Tryz.results64, go_sem, c0, c1, c2, c3]) rfl ⟨rfl, set4 hB2 (by omega)⟩
        · obtain ⟨rb, rfl⟩ := r3 hpl
          have HP : Hid (plN R = true) := Lib.hid (by rw [r1, hpl])
          obtain ⟨x, hx⟩ : ∃ x, esN R = x := ⟨_, rfl⟩
          have HX := Lib.hid hx
          have hx2 : x = decide (S[p].toNat = 34 ∨ S[p].toNat = 92) := by rw [← hx, ← rb]; rfl
          by_cases hbad : e = true ∧ x = false
          · obtain ⟨rfl, rfl⟩ := hbad
            obtain ⟨rfl, rfl, rfl⟩ : t = zeroT ∧ n = 0 ∧ e0 = 4 := by
              have := HR.out; rw [HD.out, strE_bad2 _ _ _ hpl (of_decide_eq_false hx2.symm)] at this; exact out3 this
            clear c10 r1 r2 r3 hpl hx hx2 rb
            go_wp2_with (first | (go_at_call 86; refine (isPrintable_of _ _ _ HP).mono ?_; rintro e w' ⟨rfl, rfl⟩) | (go_at_call 87; refine (isEscaped_of _ _ _ HX).mono ?_; rintro e w' ⟨rfl, rfl⟩))
            exact bodyPost_ret (v := .tuple #[tkV zeroT, .int .i64 0, .int .i64 4]) (by simp [results, Tryz.results64, go_sem, c0, c1, c2, c3]) rfl ⟨rfl, set4 hB2 (by omega)⟩
          · by_cases h92 : e = false ∧ R = 92
            · obtain ⟨rfl, h92⟩ := h92
              have b1 : ((R : Int) == 92) = true := by rw [beq_iff_eq]; omega
              have HN := Lib.hid (by have := HR.out; rw [HD.out, strE_esc _ _ _ (by omega)] at this; exact this : strR (strE true (S.data.toList.drop (p + 1)) o (p + 1)) = (t, n, e0))
              clear c10 r1 r2 r3 hpl hx hx2 rb hbad h92
              go_wp2_with (first | (go_at_call 86; refine (isPrintable_of _ _ _ HP).mono ?_; rintro e w' ⟨rfl, rfl⟩) | (go_at_call 87; refine (isEscaped_of _ _ _ HX).mono ?_; rintro e w' ⟨rfl, rfl⟩))
              go_roundg g'
              case measure => omega
              case rel => exact ⟨p + 1, o, true, rfl, by omega, by omega, hol, hit2, hcl2, hby2, hB2, HN.out⟩
            · by_cases h34 : e = false ∧ R = 34
              · obtain ⟨rfl, h34⟩ := h34
                have b1 : ((R : Int) == 92) = false := by rw [beq_eq_false_iff_ne]; omega
                have b2 : ((R : Int) == 34) = true := by rw [beq_iff_eq]; omega
                have HN : Hid (t = ⟨4, o, 0, 0⟩ ∧ n = p + 2 ∧ e0 = 0) := Lib.hid (by have := HR.out; rw [HD.out, strE_close _ _ _ (by omega)] at this; exact out3 this)
                have hcv := hby2.conv
                clear c10 r1 r2 r3 hpl hx hx2 rb hbad h92 h34
                go_wp2_with (first | (go_at_call 86; refine (isPrintable_of _ _ _ HP).mono ?_; rintro e w' ⟨rfl, rfl⟩) | (go_at_call 87; refine (isEscaped_of _ _ _ HX).mono ?_; rintro e w' ⟨rfl, rfl⟩))
                refine bodyPost_ret (v := .tuple #[.agg #[.int .i64 4, .string (ba o), .int .i64 0, .int .i64 0], .int .i64 (1 + (p : Int) + 1), .int .i64 0]) (by simp [results, Tryz.results64, go_sem, c0, c1, c2, c3]) rfl ⟨?_, set4 hB2 (by omega)⟩
                obtain ⟨q1, q2, q3⟩ := HN.out
                subst q1 q2 q3
                rw [show (1 + (p : Int) + 1) = ((p + 2 : Nat) : Int) by omega]
              · have hxe : e = x := by
                  cases e
                  · cases x
                    · rfl
                    · rcases of_decide_eq_true hx2.symm with q | q
                      · exact absurd ⟨rfl, by omega⟩ h34
                      · exact absurd ⟨rfl, by omega⟩ h92
                  · cases x
                    · exact absurd ⟨rfl, rfl⟩ hbad
                    · rfl
                have hxd := hxe.trans hx2
                have HRB := Lib.hid rb
                have hR255 : R ≤ 255 := by have := S[p].toNat_lt; omega
                have HBY := Lib.hid hby2
                have hway : (e = false ∧ ((R : Int) == 92) = false ∧ ((R : Int) == 34) = false) ∨ (e = true ∧ ((R : Int) == 92) = false ∧ ((R : Int) == 34) = true) ∨ (e = true ∧ ((R : Int) == 92) = true ∧ ((R : Int) == 34) = false) := by
                  cases e
                  · refine Or.inl ⟨rfl, ?_, ?_⟩ <;> rw [beq_eq_false_iff_ne]
                    · intro h; exact h92 ⟨rfl, by omega⟩
                    · intro h; exact h34 ⟨rfl, by omega⟩
                  · rcases of_decide_eq_true hxd.symm with q | q
                    · refine Or.inr (Or.inl ⟨rfl, ?_, ?_⟩)
                      · rw [beq_eq_false_iff_ne]; omega
                      · rw [beq_iff_eq]; omega
                    · refine Or.inr (Or.inr ⟨rfl, ?_, ?_⟩)
                      · rw [beq_iff_eq]; omega
                      · rw [beq_eq_false_iff_ne]; omega
                by_cases hl : 32 < o.length + 1
                · have HN : Hid (t = zeroT ∧ n = 0 ∧ e0 = 2) := Lib.hid (by have := HR.out; rw [HD.out, strE_lim _ _ _ _ hpl hxd hl] at this; exact out3 this)
                  obtain ⟨rfl, rfl, rfl⟩ := HN.out
                  have hli : (32 : Int) < (o.length : Int) + 1 := by omega
                  subst hxe
                  clear c10 r1 r2 r3 hpl hx hx2 rb hbad h92 h34 hxd hl HN
                  rcases hway with ⟨rfl, b1, b2⟩ | ⟨rfl, b1, b2⟩ | ⟨rfl, b1, b2⟩
                  all_goals
                    go_wp2_with (first | (go_at_call 86; refine (isPrintable_of _ _ _ HP).mono ?_; rintro e w' ⟨rfl, rfl⟩) | (go_at_call 87; refine (isEscaped_of _ _ _ HX).mono ?_; rintro e w' ⟨rfl, rfl⟩) | (at_builtin; refine wpList_append_own _ rfl (.tmp 51) (.tmp 54) 106 rfl (w.heap.size + 2) 5 i0 (.int .u8 0) 1 1 Tryz.underlying106 hi hz0 hz1 hz2 rfl (by decide) _ _ _ rfl (World.ownsRow.alloc HBY.out _) ⟨W.heap.size, 0, none⟩ 1 1 [.int .u8 (R : Int)] rfl rfl (cell1_new _ _ _) (by simp [Value.oneCell']) (by unfold maxLen; omega) (by omega) (by simp; omega) ?_; intro v3 w3 hown3 hgrow3 _; have hby3 := byt_next HRB.out hown3; have hit3 := grown_block (w := W.alloc _) (World.ownsRow.alloc HBY.out _) hgrow3 (by omega) (alloc_block _ hit2); have hcl3 := grown_block (w := W.alloc _) (World.ownsRow.alloc HBY.out _) hgrow3 (by omega) (alloc_block _ hcl2); have hB3 := (hB2.alloc (by omega) (.cells #[.int .u8 (R : Int)] 5)).grown hgrow3 (by simp; omega) (fun q hq => by have := (World.ownsRow.lt (World.ownsRow.alloc HBY.out (.cells #[.int .u8 (R : Int)] 5)) q hq).1; omega); obtain ⟨d0, d1, d2, d3, g0, g1, g2, g3⟩ := owT_heap hcl3; have HBY3 := Lib.hid hby3; obtain ⟨a3, cap3, rfl, hc3, hm3⟩ := hby3.len; clear hby3 hown3 hgrow3; simp only [List.length_append, List.length_cons, List.length_nil] at hc3 HBY3 ⊢))
                    exact bodyPost_ret (v := .tuple #[tkV zeroT, .int .i64 0, .int .i64 2]) (by simp [results, Tryz.results64, go_sem, d0, d1, d2, d3]) rfl ⟨rfl, set4 hB3 (by omega)⟩
                · have HN : Hid (strR (strE false (S.data.toList.drop (p + 1)) (o ++ [S[p]]) (p + 1)) = (t, n, e0)) := Lib.hid (by have := HR.out; rw [HD.out, strE_ok _ _ _ _ hpl hxd hl] at this; exact this)
                  have hli : ¬ (32 : Int) < (o.length : Int) + 1 := by omega
                  subst hxe
                  clear c10 r1 r2 r3 hpl hx hx2 rb hbad h92 h34 hxd hl
                  rcases hway with ⟨rfl, b1, b2⟩ | ⟨rfl, b1, b2⟩ | ⟨rfl, b1, b2⟩
                  all_goals
                    go_wp2_with (first | (go_at_call 86; refine (isPrintable_of _ _ _ HP).mono ?_; rintro e w' ⟨rfl, rfl⟩) | (go_at_call 87; refine (isEscaped_of _ _ _ HX).mono ?_; rintro e w' ⟨rfl, rfl⟩) | (at_builtin; refine wpList_append_own _ rfl (.tmp 51) (.tmp 54) 106 rfl (w.heap.size + 2) 5 i0 (.int .u8 0) 1 1 Tryz.underlying106 hi hz0 hz1 hz2 rfl (by decide) _ _ _ rfl (World.ownsRow.alloc HBY.out _) ⟨W.heap.size, 0, none⟩ 1 1 [.int .u8 (R : Int)] rfl rfl (cell1_new _ _ _) (by simp [Value.oneCell']) (by unfold maxLen; omega) (by omega) (by simp; omega) ?_; intro v3 w3 hown3 hgrow3 _; have hby3 := byt_next HRB.out hown3; have hit3 := grown_block (w := W.alloc _) (World.ownsRow.alloc HBY.out _) hgrow3 (by omega) (alloc_block _ hit2); have hcl3 := grown_block (w := W.alloc _) (World.ownsRow.alloc HBY.out _) hgrow3 (by omega) (alloc_block _ hcl2); have hB3 := (hB2.alloc (by omega) (.cells #[.int .u8 (R : Int)] 5)).grown hgrow3 (by simp; omega) (fun q hq => by have := (World.ownsRow.lt (World.ownsRow.alloc HBY.out (.cells #[.int .u8 (R : Int)] 5)) q hq).1; omega); obtain ⟨d0, d1, d2, d3, g0, g1, g2, g3⟩ := owT_heap hcl3; have HBY3 := Lib.hid hby3; obtain ⟨a3, cap3, rfl, hc3, hm3⟩ := hby3.len; clear hby3 hown3 hgrow3; simp only [List.length_append, List.length_cons, List.length_nil] at hc3 HBY3 ⊢))
                    go_roundg g'
                    case measure => omega
                    case rel => exact ⟨p + 1, o ++ [S[p]], false, rfl, by omega, by omega, by rw [List.length_append]; simp; omega, hit3, hcl3, HBY3.out, hB3, HN.out⟩
    · obtain rfl : p = S.size := by omega
      have hnx : ∀ ty, (Instr.next (.pointer (some ⟨w.heap.size + 1, 0, none⟩)) true ty).run Tryz.prog wr = _ := fun ty => Lib.run_next_end_at wr (w.heap.size + 1) S S.size ty hit hps
      obtain ⟨rfl, rfl, rfl⟩ : t = zeroT ∧ n = 0 ∧ e0 = 3 := by
        have := HR.out; rw [drop_end (Nat.le_refl _), strE_end] at this; exact out3 this
      obtain ⟨c0, c1, c2, c3, f0, f1, f2, f3⟩ := owT_heap hcl
      clear hit hcl
      go_wp2
      exact bodyPost_ret (v := .tuple #[tkV zeroT, .int .i64 0, .int .i64 3]) (by simp [results, Tryz.results64, go_sem, c0, c1, c2, c3]) rfl ⟨rfl, set4 hB (by omega)⟩
end Go.Proofs.YtgccheiemnpaoaaGreatDoor
namespace Go.Proofs.YtgccheiemnpaoaaGreatDoor
open Go.RowKit lex

theorem tw_take (p : UInt8 → Bool) : ∀ (l : List UInt8) (m : Nat), (l.takeWhile p).length ≤ m → ((l.take m).takeWhile p).length = (l.takeWhile p).length := by
  intro l
  induction l with
  | nil => intro m _; simp
  | cons a t ih =>
    intro m hm
    cases h : p a
    · cases m <;> simp [h]
    · rw [List.takeWhile_cons, h] at hm
      simp only [if_true, List.length_cons] at hm
      obtain ⟨m', rfl⟩ : ∃ m', m = m' + 1 := ⟨m - 1, by omega⟩
      rw [List.take_succ_cons, List.takeWhile_cons, h, List.takeWhile_cons, h]
      simp only [if_true, List.length_cons]
      rw [ih m' (by omega)]
theorem word_take (l : List UInt8) : wordLen (l.take (wordLen l)) = wordLen l := by
  cases l with
  | nil => rfl
  | cons a t =>
    rw [wordLen_cons]
    by_cases h : isLet a = true
    · rw [if_pos h, List.take_succ_cons, wordLen_cons, if_pos h, tw_take isWd t _ (Nat.le_refl _)]
    · rw [if_neg h]; rfl
theorem wrd_take (l : List UInt8) (h : 0 < wordLen l) : wrdC (l.take (wordLen l)) = if isKw (l.take (wordLen l)) then (⟨2, l.take (wordLen l), 0, 0⟩, wordLen l, 0) else if 16 < wordLen l then (zeroT, 0, 2) else (⟨1, l.take (wordLen l), 0, 0⟩, wordLen l, 0) := by
  have hl : (l.take (wordLen l)).length = wordLen l := by rw [List.length_take]; have := wordLen_le l; omega
  unfold wrdC
  rw [hl]
  by_cases hk : isKw (l.take (wordLen l)) = true
  · rw [if_pos hk, if_pos hk]
  · rw [if_neg hk, if_neg hk]
    have hne : (l.take (wordLen l)).isEmpty = false := by
      cases e : l.take (wordLen l) with
      | nil => rw [e] at hl; simp at hl; omega
      | cons a t => rfl
    have hn : isNm (l.take (wordLen l)) = decide (wordLen l ≤ 16) := by
      unfold isNm
      rw [hl, word_take, hne]
      simp only [Bool.not_eq_true] at hk
      rw [hk]
      simp
    rw [hn]
    by_cases h16 : 16 < wordLen l
    · rw [if_pos h16, if_neg (by simp; omega)]
    · rw [if_neg h16, if_pos (by simp; omega)]
/-- What leadingToken answers: the token, its length, the error; at an error nothing else. -/
def tokC (l : List UInt8) : Tok × Nat × Int := if (oneL prL l).2.2 = 0 then oneL prL l else (zeroT, 0, (oneL prL l).2.2)
theorem tokC_of {l : List UInt8} {r : Tok × Nat × Int} (h : oneL prL l = r) : tokC l = if r.2.2 = 0 then r else (zeroT, 0, r.2.2) := by unfold tokC; rw [h]
theorem tokC_word (l : List UInt8) (h : 0 < wordLen l) : tokC l = wrdC (l.take (wordLen l)) := by
  rw [wrd_take l h]
  have e : oneL prL l = if isKw (l.take (wordLen l)) then (⟨2, l.take (wordLen l), 0, 0⟩, wordLen l, 0) else if 16 < wordLen l then (⟨0, [], 0, 0⟩, 0, 2) else (⟨1, l.take (wordLen l), 0, 0⟩, wordLen l, 0) := by unfold oneL; rw [if_pos h]
  rw [tokC_of e]
  by_cases hk : isKw (l.take (wordLen l)) = true
  · simp only [if_pos hk]; rfl
  · simp only [if_neg hk]
    by_cases h16 : 16 < wordLen l
    · simp only [if_pos h16]; rfl
    · simp only [if_neg h16]; rfl
theorem tokC_num (l : List UInt8) (h0 : wordLen l = 0) (h : 0 < numLen l) : tokC l = numC (l.take (numLen l)) := by
  have hl : (l.take (numLen l)).length = numLen l := by rw [List.length_take]; have := numLen_le l; omega
  have e : oneL prL l = (⟨3, [], (prL (l.take (numLen l))).1, 0⟩, numLen l, (prL (l.take (numLen l))).2) := by unfold oneL; rw [if_neg (by omega), if_pos h]
  rw [tokC_of e]
  unfold numC
  rw [hl]
  by_cases he : (prL (l.take (numLen l))).2 = 0
  · simp only [if_pos he]; rw [he]
  · simp only [if_neg he]
theorem tokC_str (l : List UInt8) (h0 : wordLen l = 0) (h1 : numLen l = 0) (h : l.head? = some 34) : tokC l = strR (strL (l.drop 1) [] 1) := by
  have e : oneL prL l = (⟨4, (strL l.tail [] 1).1, 0, 0⟩, (strL l.tail [] 1).2.1, (strL l.tail [] 1).2.2) := by unfold oneL; rw [if_neg (by omega), if_neg (by omega), if_pos h]
  rw [tokC_of e, List.drop_one]
  unfold strR
  by_cases he : (strL l.tail [] 1).2.2 = 0
  · simp only [if_pos he]; rw [he]
  · simp only [if_neg he]
theorem tokC_mark (l : List UInt8) (hl : 0 < l.length) (h0 : wordLen l = 0) (h1 : numLen l = 0) (h : l.head? ≠ some 34) : tokC l = if (markL l).isEmpty then (zeroT, 0, 4) else (⟨5, markL l, 0, 0⟩, (markL l).length, 0) := by
  have e : oneL prL l = if 1 < l.length ∧ isMk (l.take 2) = true then (⟨5, l.take 2, 0, 0⟩, 2, 0) else if isMk (l.take 1) then (⟨5, l.take 1, 0, 0⟩, 1, 0) else (⟨0, [], 0, 0⟩, 0, 4) := by unfold oneL; rw [if_neg (by omega), if_neg (by omega), if_neg h]
  rw [tokC_of e]
  unfold markL
  by_cases h2 : 1 < l.length ∧ isMk (l.take 2) = true
  · simp only [if_pos h2]
    have hz : (l.take 2).length = 2 := by rw [List.length_take]; omega
    have : (l.take 2).isEmpty = false := by
      cases e : l.take 2 with
      | nil => rw [e] at hz; cases hz
      | cons a t => rfl
    rw [this, if_pos trivial, if_neg (by decide), hz]
  · simp only [if_neg h2]
    by_cases h3 : isMk (l.take 1) = true
    · simp only [if_pos h3]
      have hz : (l.take 1).length = 1 := by rw [List.length_take]; omega
      have : (l.take 1).isEmpty = false := by
        cases e : l.take 1 with
        | nil => rw [e] at hz; cases hz
        | cons a t => rfl
      rw [this, if_pos trivial, if_neg (by decide), hz]
    · simp only [if_neg h3]
      rfl
theorem empty_of {X : ByteArray} {n : Nat} (h : X.size = n) (h0 : n = 0) : X.toList.isEmpty = true := by rw [ByteArray.toList_eq, list_nil (h.trans h0)]; rfl
theorem full_of {X : ByteArray} {n : Nat} (h : X.size = n) (h0 : 0 < n) : X.toList.isEmpty = false := by
  rw [ByteArray.toList_eq, Bool.eq_false_iff]; intro e; have := List.isEmpty_iff.1 e; rw [← size_list, this] at h; simp at h; omega
set_option maxHeartbeats 4000000 in
theorem leadingToken_of (s : ByteArray) (t : Tok) (n : Nat) (e0 : Int) (w : World) (hs : s.size ≤ 20000) (h1 : 1 ≤ s.size) (h : Hid (tokC s.data.toList = (t, n, e0))) :
    Calls Tryz.prog 44 #[.string s] w (TkOut t n e0 w) := by
  obtain ⟨kd, tx, nu, li⟩ := t
  have hm : s.size ≤ maxLen := by unfold maxLen; omega
  have hR := owT_new w 0 ⟨#[]⟩ 0 0 81
  obtain ⟨a, ha⟩ : ∃ v, wordLen s.data.toList = v := ⟨_, rfl⟩
  have hal := wordLen_le s.data.toList
  rw [size_list, ha] at hal
  have HA := Lib.hid ha
  obtain ⟨X, hX⟩ : ∃ X, s.extract 0 a = X := ⟨_, rfl⟩
  have hXz := ext_size s a hal
  have hXd := ext_take s a
  rw [hX] at hXz hXd
  have CW : Hid (∀ w, Calls Tryz.prog 60 #[.string s] w fun e w' => e = .returned (.string X) ∧ Below w.heap.size w w') := Lib.hid (fun w => by
    rw [← hX]; exact leadingWord_of s a w hm HA)
  by_cases ha0 : 0 < a
  · have hemp : X.toList.isEmpty = false := full_of hXz ha0
    have HT : Hid (wrdC X.data.toList = (⟨kd, tx, nu, li⟩, n, e0)) := Lib.hid (by rw [hXd, ← h.out, tokC_word _ (by omega), ha])
    have hXm : X.size ≤ maxLen := by unfold maxLen; omega
    have HXM := Lib.hid hXm
    clear h ha hal HA hX hXz hXd ha0 hXm
    go_enter Tryz.func44, Tryz.ntmps44
    go_wp2_with fail
    refine (CW.out _).mono ?_
    rintro e w1 ⟨rfl, hb1⟩
    go_wp2_with fail
    refine (wordToken_of _ _ _ _ _ HXM.out HT).mono ?_
    rintro e w2 ⟨rfl, hb2⟩
    have hb := below_keep hb2 hb1
    obtain ⟨c0, c1, c2, c3, f0, f1, f2, f3⟩ := hR.keep hb
    have hB := below_keep hb (al1 ..)
    clear hb1 hb2 hb
    go_wp2
    exact bodyPost_ret (v := .tuple #[tkV ⟨kd, tx, nu, li⟩, .int .i64 n, .int .i64 e0]) (by simp [results, Tryz.results44, go_sem, c0, c1, c2, c3]) rfl ⟨rfl, set4 hB (by omega)⟩
  · have hw0 : wordLen s.data.toList = 0 := by omega
    have hemp : X.toList.isEmpty = true := empty_of hXz (by omega)
    obtain ⟨b, hb⟩ : ∃ v, numLen s.data.toList = v := ⟨_, rfl⟩
    have hbl := numLen_le s.data.toList
    rw [size_list, hb] at hbl
    have HBn := Lib.hid hb
    obtain ⟨Y, hY⟩ : ∃ Y, s.extract 0 b = Y := ⟨_, rfl⟩
    have hYz := ext_size s b hbl
    have hYd := ext_take s b
    rw [hY] at hYz hYd
    have CN : Hid (∀ w, Calls Tryz.prog 62 #[.string s] w fun e w' => e = .returned (.string Y) ∧ Below w.heap.size w w') := Lib.hid (fun w => by
      rw [← hY]; exact leadingNumber_of s b w hm HBn)
    clear ha hal HA hX hXz hXd ha0
    by_cases hb0 : 0 < b
    · have hempY : Y.toList.isEmpty = false := full_of hYz hb0
      have HT : Hid (numC Y.data.toList = (⟨kd, tx, nu, li⟩, n, e0)) := Lib.hid (by rw [hYd, ← h.out, tokC_num _ hw0 (by omega), hb])
      have HYM := Lib.hid (show Y.size ≤ 20000 by omega)
      clear h hb hbl HBn hY hYz hYd hb0 hw0
      go_enter Tryz.func44, Tryz.ntmps44
      go_wp2_with fail
      refine (CW.out _).mono ?_
      rintro e w1 ⟨rfl, hb1⟩
      go_wp2_with fail
      refine (CN.out _).mono ?_
      rintro e w2 ⟨rfl, hb2⟩
      go_wp2_with fail
      refine (numberToken_of _ _ _ _ _ HYM.out HT).mono ?_
      rintro e w3 ⟨rfl, hb3⟩
      have hb := below_keep hb3 (below_keep hb2 hb1)
      obtain ⟨c0, c1, c2, c3, f0, f1, f2, f3⟩ := hR.keep hb
      have hB := below_keep hb (al1 ..)
      clear hb1 hb2 hb3 hb
      go_wp2
      exact bodyPost_ret (v := .tuple #[tkV ⟨kd, tx, nu, li⟩, .int .i64 n, .int .i64 e0]) (by simp [results, Tryz.results44, go_sem, c0, c1, c2, c3]) rfl ⟨rfl, set4 hB (by omega)⟩
    · have hn0 : numLen s.data.toList = 0 := by omega
      have hempY : Y.toList.isEmpty = true := empty_of hYz (by omega)
      have hz0 : 0 < s.size := by omega
      have hh : s.data.toList.head? = some s[0] := by rw [List.head?_eq_getElem?]; exact dig_at' s 0 hz0
      clear hb hbl HBn hY hYz hYd hb0
      by_cases c34 : s[0].toNat = 34
      · have b1 : ((s[0].toNat : Int) == 34) = true := by rw [beq_iff_eq]; omega
        have HT : Hid (strR (strL (s.data.toList.drop 1) [] 1) = (⟨kd, tx, nu, li⟩, n, e0)) := Lib.hid (by rw [← h.out, tokC_str _ hw0 hn0 (by rw [hh]; exact congrArg some (UInt8.toNat_inj.1 c34))])
        have HZ := Lib.hid hs
        clear h hw0 hn0 hh c34
        go_enter Tryz.func44, Tryz.ntmps44
        go_wp2_with fail
        refine (CW.out _).mono ?_
        rintro e w1 ⟨rfl, hb1⟩
        go_wp2_with fail
        refine (CN.out _).mono ?_
        rintro e w2 ⟨rfl, hb2⟩
        go_wp2_with fail
        refine (stringToken_of _ _ _ _ _ HZ.out h1 HT).mono ?_
        rintro e w3 ⟨rfl, hb3⟩
        have hb := below_keep hb3 (below_keep hb2 hb1)
        obtain ⟨c0, c1, c2, c3, f0, f1, f2, f3⟩ := hR.keep hb
        have hB := below_keep hb (al1 ..)
        clear hb1 hb2 hb3 hb
        go_wp2
        exact bodyPost_ret (v := .tuple #[tkV ⟨kd, tx, nu, li⟩, .int .i64 n, .int .i64 e0]) (by simp [results, Tryz.results44, go_sem, c0, c1, c2, c3]) rfl ⟨rfl, set4 hB (by omega)⟩
      · have b1 : ((s[0].toNat : Int) == 34) = false := by rw [beq_eq_false_iff_ne]; omega
        have hr := h.out
        rw [tokC_mark _ (by rw [size_list]; omega) hw0 hn0 (by rw [hh]; intro e; exact c34 (by rw [Option.some.inj e]; rfl))] at hr
        obtain ⟨m, hmk⟩ : ∃ m, markL s.data.toList = m := ⟨_, rfl⟩
        rw [hmk] at hr
        have HM := Lib.hid hmk
        have HMD : Hid ((ba m).data.toList = m) := Lib.hid (ba_list m)
        have hms : (ba m).size = m.length := ba_size m
        clear h hw0 hn0 hh c34 hmk
        by_cases hm0 : m.isEmpty = true
        · rw [if_pos hm0] at hr
          simp only [Prod.mk.injEq, lex.Tok.mk.injEq] at hr
          obtain ⟨⟨rfl, rfl, rfl, rfl⟩, rfl, rfl⟩ := hr
          have hempM : (ba m).toList.isEmpty = true := by rw [ByteArray.toList_eq, ba_list]; exact hm0
          have CM : Hid (∀ w, Calls Tryz.prog 65 #[.string s] w fun e w' => ∃ M : ByteArray, M.toList.isEmpty = true ∧ e = .returned (.string M) ∧ w = w') := Lib.hid (fun w => (leadingMark_of s m w HM).mono fun e w' h => ⟨_, hempM, h.1, h.2⟩)
          clear hempM hm0 hms
          go_enter Tryz.func44, Tryz.ntmps44
          go_wp2_with fail
          refine (CW.out _).mono ?_
          rintro e w1 ⟨rfl, hb1⟩
          go_wp2_with fail
          refine (CN.out _).mono ?_
          rintro e w2 ⟨rfl, hb2⟩
          go_wp2_with fail
          refine (CM.out _).mono ?_
          rintro e w' ⟨M, hM, rfl, rfl⟩
          have hb := below_keep hb2 hb1
          obtain ⟨c0, c1, c2, c3, f0, f1, f2, f3⟩ := hR.keep hb
          have hB := below_keep hb (al1 ..)
          clear hb1 hb2 hb
          go_wp2
          exact bodyPost_ret (v := .tuple #[tkV zeroT, .int .i64 0, .int .i64 4]) (by simp [results, Tryz.results44, go_sem, c0, c1, c2, c3]) rfl ⟨rfl, set4 hB (by omega)⟩
        · rw [if_neg hm0] at hr
          simp only [Prod.mk.injEq, lex.Tok.mk.injEq] at hr
          obtain ⟨⟨rfl, hmx, rfl, rfl⟩, rfl, rfl⟩ := hr
          subst hmx
          have hempM : (ba m).toList.isEmpty = false := by rw [ByteArray.toList_eq, ba_list]; simpa using hm0
          have CM : Hid (∀ w, Calls Tryz.prog 65 #[.string s] w fun e w' => ∃ M : ByteArray, M.toList.isEmpty = false ∧ M.size = m.length ∧ M = ba m ∧ e = .returned (.string M) ∧ w = w') := Lib.hid (fun w => (leadingMark_of s m w HM).mono fun e w' h => ⟨_, hempM, hms, rfl, h.1, h.2⟩)
          clear hempM hm0 hms
          go_enter Tryz.func44, Tryz.ntmps44
          go_wp2_with fail
          refine (CW.out _).mono ?_
          rintro e w1 ⟨rfl, hb1⟩
          go_wp2_with fail
          refine (CN.out _).mono ?_
          rintro e w2 ⟨rfl, hb2⟩
          go_wp2_with fail
          refine (CM.out _).mono ?_
          rintro e w' ⟨M, hM, hMs, hMb, rfl, rfl⟩
          have HMB := Lib.hid hMb
          have hb := below_keep hb2 hb1
          obtain ⟨c0, c1, c2, c3, f0, f1, f2, f3⟩ := hR.keep hb
          have hB := below_keep hb (al1 ..)
          clear hb1 hb2 hb hMb
          go_wp2
          exact bodyPost_ret (v := .tuple #[.agg #[.int .i64 5, .string M, .int .i64 0, .int .i64 0], .int .i64 (m.length : Int), .int .i64 0]) (by simp [results, Tryz.results44, go_sem, c0, c1, c2, c3]) rfl ⟨by rw [HMB.out], set4 hB (by omega)⟩
end Go.Proofs.YtgccheiemnpaoaaGreatDoor
namespace Go.Proofs.YtgccheiemnpaoaaGreatDoor
open Go.RowKit lex

theorem tokC_ok {l : List UInt8} {t : Tok} {n : Nat} {e : Int} (h : tokC l = (t, n, e)) (he : e = 0) : oneL prL l = (t, n, 0) := by
  unfold tokC at h
  by_cases h0 : (oneL prL l).2.2 = 0
  · rw [if_pos h0, he] at h; exact h
  · rw [if_neg h0] at h
    simp only [Prod.mk.injEq] at h
    exact absurd (h.2.2.trans he) h0
theorem tokC_err {l : List UInt8} {t : Tok} {n : Nat} {e : Int} (h : tokC l = (t, n, e)) : (oneL prL l).2.2 = e := by
  unfold tokC at h
  by_cases h0 : (oneL prL l).2.2 = 0
  · rw [if_pos h0] at h; rw [h]
  · rw [if_neg h0] at h
    simp only [Prod.mk.injEq] at h
    exact h.2.2
set_option maxRecDepth 100000 in
set_option maxHeartbeats 8000000 in
theorem tokenize_near (s : ByteArray) (L : List Tok) (l0 e0 : Int) (w : World) (hs : s.size ≤ 16384) (h : Hid (tkz prL s.data.toList 1 false = (L, l0, e0))) :
    Calls Tryz.prog 32 #[.string s] w (TokOut L l0 e0 w) := by
  obtain ⟨i0, hi, hz0, hz1, hz2⟩ := info_tok4
  have H0 : Hid (combs [] (tkz prL (s.data.toList.drop 0) 1 false) = (L, l0, e0)) := Lib.hid (by rw [combs_nil]; exact h.out)
  have hsi : ¬ (16384 : Int) < (s.size : Int) := by omega
  clear h
  go_enter Tryz.func32, Tryz.ntmps32
  go_wp2_with fail
  go_loopw [0, 5, 6] (fun src out ln wr => ∃ (T : ByteArray) (k : Nat) (ts : List Tok) (l : Int), src = .string T ∧ T.data.toList = s.data.toList.drop k ∧ T.size + k = s.size ∧ ln = .int .i64 l ∧ ts.length ≤ k ∧ 1 ≤ l ∧ l ≤ k + 1 ∧
    wr.ownsRow w.heap.size 81 4 out ts.length (flatT ts) ∧ Below w.heap.size w wr ∧ combs ts (tkz prL (s.data.toList.drop k) l false) = (L, l0, e0)) (fun src _ _ _ => lenOf src)
  case atStart => exact ⟨s, 0, [], 1, rfl, rfl, rfl, rfl, Nat.le_refl _, by omega, by omega, World.ownsRow_nil _ _ _ _, Below.refl _ _, H0.out⟩
  case round =>
    obtain ⟨T, k, ts, l, rfl, hT, hTs, rfl, hts, hl1, hl2, hown, hB, hr⟩ := hrel
    rename World => wr
    have HO := Lib.hid hown
    have HR := Lib.hid hr
    have HT := Lib.hid hT
    have HTM := Lib.hid (show T.size ≤ maxLen by unfold maxLen; omega)
    clear hown hr hT H0
    go_wp2_with fail
    refine (skipBlanks_any T _ HTM.out).mono ?_
    rintro e w1 ⟨U, j, m, rfl, hU, hj, hmj, hS, hH, hb1⟩
    rw [HT.out, List.drop_drop] at hU
    rw [size_list] at hj
    have hUs : U.size + (k + j) = s.size := by rw [← size_list, hU, List.length_drop, size_list]; omega
    have hS2 := hS l
    rw [HT.out, List.drop_drop] at hS2
    have HO1 := own_keep HO.out hb1
    have hB1 := below_keep hb1 hB
    have HR1 : Hid (combs ts (tkz prL (s.data.toList.drop (k + j)) (l + (m : Int)) false) = (L, l0, e0)) := Lib.hid (by rw [← hS2]; exact HR.out)
    have HU := Lib.hid hU
    have HH := Lib.hid hH
    have HOW1 := Lib.hid HO1
    clear hU hS hS2 hH HO HR HT HTM hb1 hB HO1
    by_cases hU0 : U.size = 0
    · have hemp : (U.toList == []) = true := nil_yes hU0
      have HN : Hid (L = ts ∧ l0 = 0 ∧ e0 = 0) := Lib.hid (by
        have := HR1.out
        rw [← HU.out, list_nil hU0, tkz_nil] at this
        unfold combs at this
        simp only [ne_eq, not_true_eq_false, if_false, List.append_nil, Prod.mk.injEq] at this
        exact ⟨this.1.symm, this.2.1.symm, this.2.2.symm⟩)
      obtain ⟨rfl, rfl, rfl⟩ := HN.out
      clear HN HR1 HH
      go_wp2
      go_ret3
      exact ⟨_, rfl, own_tl HOW1.out, hB1⟩
    · have hemp : (U.toList == []) = false := nil_no hU0
      have hU1 : 0 < U.size := by omega
      have hHead : U.data.toList = U[0] :: (s.data.toList.drop (k + j)).tail := by
        have e := drop_at (s := U) (k := 0) hU1
        rw [List.drop_zero] at e
        rw [e]; congr 1
        rw [← HU.out, e]; rfl
      obtain ⟨c10, hbl⟩ := HH.out U[0] (by rw [hHead]; rfl)
      have HX2 := Lib.hid (show U.size ≤ 20000 by omega)
      obtain ⟨t, n, e1, ho⟩ : ∃ t n e1, tokC U.data.toList = (t, n, e1) := ⟨_, _, _, rfl⟩
      have HT := Lib.hid ho
      have hD : s.data.toList.drop (k + j) = U[0] :: (s.data.toList.drop (k + j)).tail := by rw [← hHead, HU.out]
      by_cases he : e1 = 0
      · have hone := tokC_ok ho he
        subst he
        rw [HU.out] at hone
        obtain ⟨n1, n2, _⟩ := oneL_len prL (s.data.toList.drop (k + j)) (by rw [hD]; simp) (by rw [hone])
        rw [hone] at n1 n2
        simp only [List.length_drop, size_list] at n1 n2
        have HN : Hid (combs (ts ++ [{ t with line := l + (m : Int) }]) (tkz prL (s.data.toList.drop (k + j + n)) (l + (m : Int)) false) = (L, l0, e0)) := Lib.hid (by
          have := HR1.out
          rw [hD] at this
          rw [tkz_tok _ _ _ _ c10 hbl (by rw [← hD, hone]), ← hD, hone, combs_tok, List.drop_drop] at this
          exact this)
        obtain ⟨kd, tx, nu, li⟩ := t
        have HV := Lib.hid (rest_drop n HU.out)
        have hVs : (U.extract n U.size).size + (k + j + n) = s.size := by rw [← size_list, HV.out, List.length_drop, size_list]; omega
        have HVS := Lib.hid hVs
        clear c10 hbl ho hone hD hHead HR1 HH hU0 hVs
        simp only at HN
        go_upto_region 13 with (go_at_call 44; refine (leadingToken_of _ _ _ _ _ HX2.out hU1 HT).mono ?_; rintro e w2 ⟨rfl, hb2⟩)
        have HO2 := own_keep HOW1.out hb2
        have HO3 := own_keep HO2 (al1 w2 (.cells #[.int .i64 kd, .string (ba tx), .int .i64 nu, .int .i64 (l + (m : Int))] 81))
        have hB3 := below_keep (al1 w2 (.cells #[.int .i64 kd, .string (ba tx), .int .i64 nu, .int .i64 (l + (m : Int))] 81)) (below_keep hb2 hB1)
        have q0 : (w2.alloc (.cells #[.int .i64 kd, .string (ba tx), .int .i64 nu, .int .i64 (l + (m : Int))] 81)).cell? ⟨w2.heap.size, 0, none⟩ = some (.int .i64 kd) := by go_simp
        have q1 : (w2.alloc (.cells #[.int .i64 kd, .string (ba tx), .int .i64 nu, .int .i64 (l + (m : Int))] 81)).cell? ⟨w2.heap.size, 1, none⟩ = some (.string (ba tx)) := by go_simp
        have q2 : (w2.alloc (.cells #[.int .i64 kd, .string (ba tx), .int .i64 nu, .int .i64 (l + (m : Int))] 81)).cell? ⟨w2.heap.size, 2, none⟩ = some (.int .i64 nu) := by go_simp
        have q3 : (w2.alloc (.cells #[.int .i64 kd, .string (ba tx), .int .i64 nu, .int .i64 (l + (m : Int))] 81)).cell? ⟨w2.heap.size, 3, none⟩ = some (.int .i64 (l + (m : Int))) := by go_simp
        generalize w2.alloc (.cells #[.int .i64 kd, .string (ba tx), .int .i64 nu, .int .i64 (l + (m : Int))] 81) = w3 at HO3 hB3 q0 q1 q2 q3 ⊢
        have hs3 := hB3.size
        have HOW := Lib.hid HO3
        clear HO2 HO3 HOW1 hB1 hb2
        go_wp2_with (at_builtin; refine wpList_append_own _ rfl (.tmp 38) (.tmp 40) 66 rfl w.heap.size 81 i0 (.agg #[.int .i64 0, .string ⟨#[]⟩, .int .i64 0, .int .i64 0]) 4 40 Tryz.underlying66 hi hz0 hz1 hz2 rfl (by decide) _ _ _ rfl (HOW.out.alloc _) ⟨w3.heap.size, 0, none⟩ 1 1 [.int .i64 kd, .string (ba tx), .int .i64 nu, .int .i64 (l + (m : Int))] rfl rfl (cell4_new _ _ _ _ _ _) (by simp [Value.oneCell']) (by unfold maxLen; omega) (by omega) (by simp; omega) ?_; intro v4 w4 hown4 hgrow4 _)
        go_roundw
        case rel => exact ⟨_, k + j + n, ts ++ [⟨kd, tx, nu, l + (m : Int)⟩], l + (m : Int), rfl, HV.out, HVS.out, rfl, by rw [List.length_append]; simp; omega, by omega, by omega, by rw [flatT_snoc, List.length_append]; exact hown4, (hB3.alloc hs3 _).grown hgrow4 (by simp; omega) fun q hq => (HOW.out.lt q hq).1, HN.out⟩
        case measure => have := HVS.out; simp only [lenOf]; omega
      · have hone := tokC_err ho
        have b6 : (e1 != 0) = true := by simp [he]
        rw [HU.out] at hone
        have HN : Hid (L = [] ∧ l0 = l + (m : Int) ∧ e0 = e1) := Lib.hid (by
          have := HR1.out
          rw [hD] at this
          rw [tkz_err _ _ _ _ c10 hbl (by rw [← hD, hone]; exact he), ← hD, hone] at this
          unfold combs at this
          rw [if_pos he] at this
          simp only [Prod.mk.injEq] at this
          exact ⟨this.1.symm, this.2.1.symm, this.2.2.symm⟩)
        obtain ⟨rfl, rfl, rfl⟩ := HN.out
        clear c10 hbl ho hone hD hHead HR1 HH hU0 he HN
        obtain ⟨kd, tx, nu, li⟩ := t
        go_wp2_with (go_at_call 44; refine (leadingToken_of _ _ _ _ _ HX2.out hU1 HT).mono ?_; rintro e w2 ⟨rfl, hb2⟩)
        go_ret3
        exact ⟨_, rfl, Tl.nil _, below_keep (al1 ..) (below_keep hb2 hB1)⟩
theorem tokenize_any (s : ByteArray) (L : List Tok) (l0 e0 : Int) (w : World) (_ : s.size ≤ maxLen) (h : Hid (tokE s.data.toList = (L, l0, e0))) :
    Calls Tryz.prog 32 #[.string s] w (TokOut L l0 e0 w) := by
  have hr := h.out
  unfold tokE at hr
  rw [size_list] at hr
  clear h
  by_cases hz : 16384 < s.size
  · rw [if_pos hz] at hr
    simp only [Prod.mk.injEq] at hr
    obtain ⟨rfl, rfl, rfl⟩ := hr
    have hzi : (16384 : Int) < (s.size : Int) := by omega
    clear hz
    go_enter Tryz.func32, Tryz.ntmps32
    go_wp2
    go_ret3
    exact ⟨_, rfl, Tl.nil _, Below.refl _ _⟩
  · rw [if_neg hz] at hr
    exact tokenize_near s L l0 e0 w (by omega) (Lib.hid hr)
end Go.Proofs.YtgccheiemnpaoaaGreatDoor
