/-
  What Tokenize of the reference of layer 6 returns. Condition: the source is no longer than 16384 bytes.
-/
import Derived.Test.YtcohjleolidngaaRefOne
import Derived.Test.YtcohjleolidngaaToks
namespace Go.Proofs.Ytcohjleolidngaa
open Go.RowKit lex

theorem ext_drop (s : ByteArray) (k : Nat) : (s.extract k s.size).data.toList = s.data.toList.drop k := drop_extract s k

set_option maxRecDepth 100000 in
set_option maxHeartbeats 8000000 in
theorem rtokenize_of (s : ByteArray) (L : List Tok) (l0 e0 : Int) (w : World) (hs : s.size ≤ 16384) (h : Hid (tkz prL s.data.toList 1 false = (L, l0, e0))) :
    Calls Try.prog 17 #[.string s] w (TokOut L l0 e0 w) := by
  obtain ⟨i0, hi, hz0, hz1, hz2⟩ := info_tok4
  have H0 : Hid (combs [] (tkz prL (s.data.toList.drop 0) 1 false) = (L, l0, e0)) := Lib.hid (by rw [combs_nil]; exact h.out)
  clear h
  go_enter Try.func17, Try.ntmps17
  go_wp2_with fail
  go_loopw [5, 6, 7, 8] (fun o ln cm at' wr => ∃ (k : Nat) (ts : List Tok) (l : Int) (com : Bool), k ≤ s.size ∧ at' = .int .i64 k ∧ ln = .int .i64 l ∧ cm = .bool com ∧ ts.length ≤ k ∧ 1 ≤ l ∧ l ≤ k + 1 ∧ wr.ownsRow w.heap.size 32 4 o ts.length (flatT ts) ∧ Below w.heap.size w wr ∧ combs ts (tkz prL (s.data.toList.drop k) l com) = (L, l0, e0)) (fun _ _ _ at' _ => s.size - (intOf at').toNat)
  case atStart => exact ⟨0, [], 1, false, Nat.zero_le _, rfl, rfl, rfl, Nat.le_refl _, by omega, by omega, World.ownsRow_nil _ _ _ _, Below.refl _ _, H0.out⟩
  case round =>
    obtain ⟨k, ts, l, com, hk, rfl, rfl, rfl, hts, hl1, hl2, hown, hB, hr⟩ := hrel
    rename World => wr
    have HO := Lib.hid hown
    have HR := Lib.hid hr
    clear hown hr
    by_cases hlt : k < s.size
    · have HD := Lib.hid (drop_at hlt)
      by_cases c10 : s[k].toNat = 10
      · have b1 : ((s[k].toNat : Int) == 10) = true := by rw [beq_iff_eq]; omega
        have HN : Hid (combs ts (tkz prL (s.data.toList.drop (k + 1)) (l + 1) false) = (L, l0, e0)) := Lib.hid (by have := HR.out; rw [HD.out, tkz_lf _ _ _ _ _ c10] at this; exact this)
        clear c10
        go_wp2
        go_roundw
        case rel => exact ⟨k + 1, ts, l + 1, false, by omega, by go_num, rfl, rfl, by omega, by omega, by omega, HO.out, hB, HN.out⟩
        case measure => simp [intOf]; omega
      · have b1 : ((s[k].toNat : Int) == 10) = false := by rw [beq_eq_false_iff_ne]; omega
        cases com
        · by_cases c35 : s[k].toNat = 35
          · have b2 : ((s[k].toNat : Int) == 35) = true := by rw [beq_iff_eq]; omega
            have b3 : ((s[k].toNat : Int) == 32) = false := by rw [beq_eq_false_iff_ne]; omega
            have b4 : ((s[k].toNat : Int) == 9) = false := by rw [beq_eq_false_iff_ne]; omega
            have HN : Hid (combs ts (tkz prL (s.data.toList.drop (k + 1)) l true) = (L, l0, e0)) := Lib.hid (by have := HR.out; rw [HD.out, tkz_skip _ _ _ _ _ c10 (by simp [isBl, c35])] at this; simpa [c35] using this)
            clear c10 c35
            go_wp2
            go_roundw
            case rel => exact ⟨k + 1, ts, l, true, by omega, by go_num, rfl, rfl, by omega, by omega, by omega, HO.out, hB, HN.out⟩
            case measure => simp [intOf]; omega
          · have b2 : ((s[k].toNat : Int) == 35) = false := by rw [beq_eq_false_iff_ne]; omega
            by_cases c32 : s[k].toNat = 32
            · have b3 : ((s[k].toNat : Int) == 32) = true := by rw [beq_iff_eq]; omega
              have HN : Hid (combs ts (tkz prL (s.data.toList.drop (k + 1)) l false) = (L, l0, e0)) := Lib.hid (by have := HR.out; rw [HD.out, tkz_skip _ _ _ _ _ c10 (by simp [isBl, c32])] at this; simpa [c35] using this)
              clear c10 c35 c32
              go_wp2
              go_roundw
              case rel => exact ⟨k + 1, ts, l, false, by omega, by go_num, rfl, rfl, by omega, by omega, by omega, HO.out, hB, HN.out⟩
              case measure => simp [intOf]; omega
            · have b3 : ((s[k].toNat : Int) == 32) = false := by rw [beq_eq_false_iff_ne]; omega
              by_cases c9 : s[k].toNat = 9
              · have b4 : ((s[k].toNat : Int) == 9) = true := by rw [beq_iff_eq]; omega
                have HN : Hid (combs ts (tkz prL (s.data.toList.drop (k + 1)) l false) = (L, l0, e0)) := Lib.hid (by have := HR.out; rw [HD.out, tkz_skip _ _ _ _ _ c10 (by simp [isBl, c9])] at this; simpa [c35] using this)
                clear c10 c35 c32 c9
                go_wp2
                go_roundw
                case rel => exact ⟨k + 1, ts, l, false, by omega, by go_num, rfl, rfl, by omega, by omega, by omega, HO.out, hB, HN.out⟩
                case measure => simp [intOf]; omega
              · have b4 : ((s[k].toNat : Int) == 9) = false := by rw [beq_eq_false_iff_ne]; omega
                have hbl : isBl s[k] = false := by simp [isBl, c32, c9, c35]
                have hsz : (s.extract k s.size).size = s.size - k := by rw [← size_list, ext_drop, List.length_drop, size_list]
                have hx1 : 1 ≤ (s.extract k s.size).size := by omega
                have hx2 : (s.extract k s.size).size ≤ 20000 := by omega
                obtain ⟨t, n, e1, ho⟩ : ∃ t n e1, oneL prL (s.data.toList.drop k) = (t, n, e1) := ⟨_, _, _, rfl⟩
                have HT : Hid (oneL prL (s.extract k s.size).data.toList = (t, n, e1)) := Lib.hid (by rw [ext_drop]; exact ho)
                have ho' := ho
                rw [HD.out] at ho'
                by_cases he : e1 = 0
                · subst he
                  obtain ⟨n1, n2, _⟩ := oneL_len prL (s.data.toList.drop k) (by rw [HD.out]; simp) (by rw [ho])
                  rw [ho] at n1 n2
                  simp only [List.length_drop, size_list] at n1 n2
                  have HN : Hid (combs (ts ++ [{ t with line := l }]) (tkz prL (s.data.toList.drop (k + n)) l false) = (L, l0, e0)) := Lib.hid (by
                    have := HR.out
                    rw [HD.out, tkz_tok _ _ _ _ c10 hbl (by rw [ho']), ho', combs_tok, ← HD.out, List.drop_drop] at this
                    exact this)
                  clear c10 c35 c32 c9 hbl ho ho' hsz
                  go_upto_region 18 with (go_at_call 25; refine (rone_of _ _ _ _ _ hx2 hx1 HT).mono ?_; rintro e w1 ⟨rfl, hb1⟩)
                  have HO1 := own_keep HO.out hb1
                  have HO2 := own_keep HO1 (al1 w1 (.cells #[.int .i64 t.kind, .string (ba t.text), .int .i64 t.num, .int .i64 l] 32))
                  have hB2 := below_keep (al1 w1 (.cells #[.int .i64 t.kind, .string (ba t.text), .int .i64 t.num, .int .i64 l] 32)) (below_keep hb1 hB)
                  have q0 : (w1.alloc (.cells #[.int .i64 t.kind, .string (ba t.text), .int .i64 t.num, .int .i64 l] 32)).cell? ⟨w1.heap.size, 0, none⟩ = some (.int .i64 t.kind) := by go_simp
                  have q1 : (w1.alloc (.cells #[.int .i64 t.kind, .string (ba t.text), .int .i64 t.num, .int .i64 l] 32)).cell? ⟨w1.heap.size, 1, none⟩ = some (.string (ba t.text)) := by go_simp
                  have q2 : (w1.alloc (.cells #[.int .i64 t.kind, .string (ba t.text), .int .i64 t.num, .int .i64 l] 32)).cell? ⟨w1.heap.size, 2, none⟩ = some (.int .i64 t.num) := by go_simp
                  have q3 : (w1.alloc (.cells #[.int .i64 t.kind, .string (ba t.text), .int .i64 t.num, .int .i64 l] 32)).cell? ⟨w1.heap.size, 3, none⟩ = some (.int .i64 l) := by go_simp
                  generalize w1.alloc (.cells #[.int .i64 t.kind, .string (ba t.text), .int .i64 t.num, .int .i64 l] 32) = w2 at HO2 hB2 q0 q1 q2 q3 ⊢
                  have hs2 := hB2.size
                  have HOW := Lib.hid HO2
                  clear HO1 HO2 HO hB hb1
                  go_wp2_with (at_builtin; refine wpList_append_own _ rfl (.tmp 63) (.tmp 65) 27 rfl w.heap.size 32 i0 (.agg #[.int .i64 0, .string ⟨#[]⟩, .int .i64 0, .int .i64 0]) 4 40 Try.underlying27 hi hz0 hz1 hz2 rfl (by decide) _ _ _ rfl (HOW.out.alloc _) ⟨w2.heap.size, 0, none⟩ 1 1 [.int .i64 t.kind, .string (ba t.text), .int .i64 t.num, .int .i64 l] rfl rfl (cell4_new _ _ _ _ _ _) (by simp [Value.oneCell']) (by unfold maxLen; omega) (by omega) (by simp; omega) ?_; intro v3 w3 hown3 hgrow3 _)
                  go_roundw
                  case rel => exact ⟨k + n, ts ++ [{ t with line := l }], l, false, by omega, by go_num, rfl, rfl, by simp; omega, by omega, by omega, by rw [flatT_snoc, List.length_append]; exact hown3, (hB2.alloc hs2 _).grown hgrow3 (by simp; omega) fun q hq => (HOW.out.lt q hq).1, HN.out⟩
                  case measure => simp [intOf]; omega
                · have b5 : (e1 == 0) = false := by rw [beq_eq_false_iff_ne]; exact he
                  have b6 : (e1 != 0) = true := by simp [he]
                  have HN : Hid (L = [] ∧ l0 = l ∧ e0 = e1) := Lib.hid (by
                    have := HR.out
                    rw [HD.out, tkz_err _ _ _ _ c10 hbl (by rw [ho']; exact he), ho'] at this
                    unfold combs at this
                    rw [if_pos he] at this
                    simp only [Prod.mk.injEq] at this
                    exact ⟨this.1.symm, this.2.1.symm, this.2.2.symm⟩)
                  obtain ⟨rfl, rfl, rfl⟩ := HN.out
                  clear c10 c35 c32 c9 hbl ho ho' hsz he
                  go_wp2_with (go_at_call 25; refine (rone_of _ _ _ _ _ hx2 hx1 HT).mono ?_; rintro e w1 ⟨rfl, hb1⟩)
                  go_ret3
                  exact ⟨_, rfl, Tl.nil _, below_keep (al1 ..) (below_keep hb1 hB)⟩
        · have HN : Hid (combs ts (tkz prL (s.data.toList.drop (k + 1)) l true) = (L, l0, e0)) := Lib.hid (by have := HR.out; rw [HD.out, tkz_skip _ _ _ _ _ c10 (by simp)] at this; simpa using this)
          clear c10
          go_wp2
          go_roundw
          case rel => exact ⟨k + 1, ts, l, true, by omega, by go_num, rfl, rfl, by omega, by omega, by omega, HO.out, hB, HN.out⟩
          case measure => simp [intOf]; omega
    · obtain rfl : k = s.size := by omega
      have HN : Hid (L = ts ∧ l0 = 0 ∧ e0 = 0) := Lib.hid (by
        have := HR.out
        rw [drop_end (Nat.le_refl _), tkz_nil] at this
        unfold combs at this
        simp only [ne_eq, not_true_eq_false, if_false, List.append_nil, Prod.mk.injEq] at this
        exact ⟨this.1.symm, this.2.1.symm, this.2.2.symm⟩)
      obtain ⟨rfl, rfl, rfl⟩ := HN.out
      go_wp2
      go_ret3
      exact ⟨_, rfl, own_tl HO.out, hB⟩
end Go.Proofs.Ytcohjleolidngaa
