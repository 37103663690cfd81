/-
  What Tokenize of the reference of layer 6 returns. Condition: the source is no longer than 16384 bytes.
  Comparing a token of layer 6 with itself, as the model does it. No condition.
  What Same of the reference of layer 6 returns for two slices of the same tokens; comparing a token with itself. No condition.
  The walk of the statement PrinterTokens of layer 8. Condition: a tree of at most two million statements.
-/
import Derived.Test.YtmpjdlhigmofdaaRefOne
import Derived.Test.YtmpjdlhigmofdaaMLv
import Derived.Laws.StructEq
import Derived.Deep.QuietTactic
import Derived.Test.YtmpjdlhigmofdaaMPs
import Derived.Test.YtmpjdlhigmofdaaMLb
namespace Go.Proofs.Ytmpjdlhigmofdaa
open Go.RowKit lex

theorem ext_drop (s : ByteArray) (k : Nat) : (s.extract k s.size).data.toList = s.data.toList.drop k := drop_extract s k

set_option maxRecDepth 100000 in
set_option maxHeartbeats 8000000 in
theorem rtokenize_of (s : ByteArray) (L : List Tok) (l0 e0 : Int) (w : World) (hs : s.size ≤ 16384) (h : Hid (tkz prL s.data.toList 1 false = (L, l0, e0))) :
    Calls Try.prog 18 #[.string s] w (TokOut L l0 e0 w) := by
  obtain ⟨i0, hi, hz0, hz1, hz2⟩ := info_tok4
  have H0 : Hid (combs [] (tkz prL (s.data.toList.drop 0) 1 false) = (L, l0, e0)) := Lib.hid (by rw [combs_nil]; exact h.out)
  clear h
  go_enter Try.func18, Try.ntmps18
  go_wp2_with fail
  go_loopw [5, 6, 7, 8] (fun o ln cm at' wr => ∃ (k : Nat) (ts : List Tok) (l : Int) (com : Bool), k ≤ s.size ∧ at' = .int .i64 k ∧ ln = .int .i64 l ∧ cm = .bool com ∧ ts.length ≤ k ∧ 1 ≤ l ∧ l ≤ k + 1 ∧ wr.ownsRow w.heap.size 68 4 o ts.length (flatT ts) ∧ Below w.heap.size w wr ∧ combs ts (tkz prL (s.data.toList.drop k) l com) = (L, l0, e0)) (fun _ _ _ at' _ => s.size - (intOf at').toNat)
  case atStart => exact ⟨0, [], 1, false, Nat.zero_le _, rfl, rfl, rfl, Nat.le_refl _, by omega, by omega, World.ownsRow_nil _ _ _ _, Below.refl _ _, H0.out⟩
  case round =>
    obtain ⟨k, ts, l, com, hk, rfl, rfl, rfl, hts, hl1, hl2, hown, hB, hr⟩ := hrel
    rename World => wr
    have HO := Lib.hid hown
    have HR := Lib.hid hr
    clear hown hr
    by_cases hlt : k < s.size
    · have HD := Lib.hid (drop_at hlt)
      by_cases c10 : s[k].toNat = 10
      · have b1 : ((s[k].toNat : Int) == 10) = true := by rw [beq_iff_eq]; omega
        have HN : Hid (combs ts (tkz prL (s.data.toList.drop (k + 1)) (l + 1) false) = (L, l0, e0)) := Lib.hid (by have := HR.out; rw [HD.out, tkz_lf _ _ _ _ _ c10] at this; exact this)
        clear c10
        go_wp2
        go_roundw
        case rel => exact ⟨k + 1, ts, l + 1, false, by omega, by go_num, rfl, rfl, by omega, by omega, by omega, HO.out, hB, HN.out⟩
        case measure => simp [intOf]; omega
      · have b1 : ((s[k].toNat : Int) == 10) = false := by rw [beq_eq_false_iff_ne]; omega
        cases com
        · by_cases c35 : s[k].toNat = 35
          · have b2 : ((s[k].toNat : Int) == 35) = true := by rw [beq_iff_eq]; omega
            have b3 : ((s[k].toNat : Int) == 32) = false := by rw [beq_eq_false_iff_ne]; omega
            have b4 : ((s[k].toNat : Int) == 9) = false := by rw [beq_eq_false_iff_ne]; omega
            have HN : Hid (combs ts (tkz prL (s.data.toList.drop (k + 1)) l true) = (L, l0, e0)) := Lib.hid (by have := HR.out; rw [HD.out, tkz_skip _ _ _ _ _ c10 (by simp [isBl, c35])] at this; simpa [c35] using this)
            clear c10 c35
            go_wp2
            go_roundw
            case rel => exact ⟨k + 1, ts, l, true, by omega, by go_num, rfl, rfl, by omega, by omega, by omega, HO.out, hB, HN.out⟩
            case measure => simp [intOf]; omega
          · have b2 : ((s[k].toNat : Int) == 35) = false := by rw [beq_eq_false_iff_ne]; omega
            by_cases c32 : s[k].toNat = 32
            · have b3 : ((s[k].toNat : Int) == 32) = true := by rw [beq_iff_eq]; omega
              have HN : Hid (combs ts (tkz prL (s.data.toList.drop (k + 1)) l false) = (L, l0, e0)) := Lib.hid (by have := HR.out; rw [HD.out, tkz_skip _ _ _ _ _ c10 (by simp [isBl, c32])] at this; simpa [c35] using this)
              clear c10 c35 c32
              go_wp2
              go_roundw
              case rel => exact ⟨k + 1, ts, l, false, by omega, by go_num, rfl, rfl, by omega, by omega, by omega, HO.out, hB, HN.out⟩
              case measure => simp [intOf]; omega
            · have b3 : ((s[k].toNat : Int) == 32) = false := by rw [beq_eq_false_iff_ne]; omega
              by_cases c9 : s[k].toNat = 9
              · have b4 : ((s[k].toNat : Int) == 9) = true := by rw [beq_iff_eq]; omega
                have HN : Hid (combs ts (tkz prL (s.data.toList.drop (k + 1)) l false) = (L, l0, e0)) := Lib.hid (by have := HR.out; rw [HD.out, tkz_skip _ _ _ _ _ c10 (by simp [isBl, c9])] at this; simpa [c35] using this)
                clear c10 c35 c32 c9
                go_wp2
                go_roundw
                case rel => exact ⟨k + 1, ts, l, false, by omega, by go_num, rfl, rfl, by omega, by omega, by omega, HO.out, hB, HN.out⟩
                case measure => simp [intOf]; omega
              · have b4 : ((s[k].toNat : Int) == 9) = false := by rw [beq_eq_false_iff_ne]; omega
                have hbl : isBl s[k] = false := by simp [isBl, c32, c9, c35]
                have hsz : (s.extract k s.size).size = s.size - k := by rw [← size_list, ext_drop, List.length_drop, size_list]
                have hx1 : 1 ≤ (s.extract k s.size).size := by omega
                have hx2 : (s.extract k s.size).size ≤ 20000 := by omega
                obtain ⟨t, n, e1, ho⟩ : ∃ t n e1, oneL prL (s.data.toList.drop k) = (t, n, e1) := ⟨_, _, _, rfl⟩
                have HT : Hid (oneL prL (s.extract k s.size).data.toList = (t, n, e1)) := Lib.hid (by rw [ext_drop]; exact ho)
                have ho' := ho
                rw [HD.out] at ho'
                by_cases he : e1 = 0
                · subst he
                  obtain ⟨n1, n2, _⟩ := oneL_len prL (s.data.toList.drop k) (by rw [HD.out]; simp) (by rw [ho])
                  rw [ho] at n1 n2
                  simp only [List.length_drop, size_list] at n1 n2
                  have HN : Hid (combs (ts ++ [{ t with line := l }]) (tkz prL (s.data.toList.drop (k + n)) l false) = (L, l0, e0)) := Lib.hid (by
                    have := HR.out
                    rw [HD.out, tkz_tok _ _ _ _ c10 hbl (by rw [ho']), ho', combs_tok, ← HD.out, List.drop_drop] at this
                    exact this)
                  clear c10 c35 c32 c9 hbl ho ho' hsz
                  go_upto_region 18 with (go_at_call 33; refine (rone_of _ _ _ _ _ hx2 hx1 HT).mono ?_; rintro e w1 ⟨rfl, hb1⟩)
                  have HO1 := own_keep HO.out hb1
                  have HO2 := own_keep HO1 (al1 w1 (.cells #[.int .i64 t.kind, .string (ba t.text), .int .i64 t.num, .int .i64 l] 68))
                  have hB2 := below_keep (al1 w1 (.cells #[.int .i64 t.kind, .string (ba t.text), .int .i64 t.num, .int .i64 l] 68)) (below_keep hb1 hB)
                  have q0 : (w1.alloc (.cells #[.int .i64 t.kind, .string (ba t.text), .int .i64 t.num, .int .i64 l] 68)).cell? ⟨w1.heap.size, 0, none⟩ = some (.int .i64 t.kind) := by go_simp
                  have q1 : (w1.alloc (.cells #[.int .i64 t.kind, .string (ba t.text), .int .i64 t.num, .int .i64 l] 68)).cell? ⟨w1.heap.size, 1, none⟩ = some (.string (ba t.text)) := by go_simp
                  have q2 : (w1.alloc (.cells #[.int .i64 t.kind, .string (ba t.text), .int .i64 t.num, .int .i64 l] 68)).cell? ⟨w1.heap.size, 2, none⟩ = some (.int .i64 t.num) := by go_simp
                  have q3 : (w1.alloc (.cells #[.int .i64 t.kind, .string (ba t.text), .int .i64 t.num, .int .i64 l] 68)).cell? ⟨w1.heap.size, 3, none⟩ = some (.int .i64 l) := by go_simp
                  generalize w1.alloc (.cells #[.int .i64 t.kind, .string (ba t.text), .int .i64 t.num, .int .i64 l] 68) = w2 at HO2 hB2 q0 q1 q2 q3 ⊢
                  have hs2 := hB2.size
                  have HOW := Lib.hid HO2
                  clear HO1 HO2 HO hB hb1
                  go_wp2_with (at_builtin; refine wpList_append_own _ rfl (.tmp 63) (.tmp 65) 39 rfl w.heap.size 68 i0 (.agg #[.int .i64 0, .string ⟨#[]⟩, .int .i64 0, .int .i64 0]) 4 40 Try.underlying39 hi hz0 hz1 hz2 rfl (by decide) _ _ _ rfl (HOW.out.alloc _) ⟨w2.heap.size, 0, none⟩ 1 1 [.int .i64 t.kind, .string (ba t.text), .int .i64 t.num, .int .i64 l] rfl rfl (cell4_new _ _ _ _ _ _) (by simp [Value.oneCell']) (by unfold maxLen; omega) (by omega) (by simp; omega) ?_; intro v3 w3 hown3 hgrow3 _)
                  go_roundw
                  case rel => exact ⟨k + n, ts ++ [{ t with line := l }], l, false, by omega, by go_num, rfl, rfl, by simp; omega, by omega, by omega, by rw [flatT_snoc, List.length_append]; exact hown3, (hB2.alloc hs2 _).grown hgrow3 (by simp; omega) fun q hq => (HOW.out.lt q hq).1, HN.out⟩
                  case measure => simp [intOf]; omega
                · have b5 : (e1 == 0) = false := by rw [beq_eq_false_iff_ne]; exact he
                  have b6 : (e1 != 0) = true := by simp [he]
                  have HN : Hid (L = [] ∧ l0 = l ∧ e0 = e1) := Lib.hid (by
                    have := HR.out
                    rw [HD.out, tkz_err _ _ _ _ c10 hbl (by rw [ho']; exact he), ho'] at this
                    unfold combs at this
                    rw [if_pos he] at this
                    simp only [Prod.mk.injEq] at this
                    exact ⟨this.1.symm, this.2.1.symm, this.2.2.symm⟩)
                  obtain ⟨rfl, rfl, rfl⟩ := HN.out
                  clear c10 c35 c32 c9 hbl ho ho' hsz he
                  go_wp2_with (go_at_call 33; refine (rone_of _ _ _ _ _ hx2 hx1 HT).mono ?_; rintro e w1 ⟨rfl, hb1⟩)
                  go_ret3
                  exact ⟨_, rfl, Tl.nil _, below_keep (al1 ..) (below_keep hb1 hB)⟩
        · have HN : Hid (combs ts (tkz prL (s.data.toList.drop (k + 1)) l true) = (L, l0, e0)) := Lib.hid (by have := HR.out; rw [HD.out, tkz_skip _ _ _ _ _ c10 (by simp)] at this; simpa using this)
          clear c10
          go_wp2
          go_roundw
          case rel => exact ⟨k + 1, ts, l, true, by omega, by go_num, rfl, rfl, by omega, by omega, by omega, HO.out, hB, HN.out⟩
          case measure => simp [intOf]; omega
    · obtain rfl : k = s.size := by omega
      have HN : Hid (L = ts ∧ l0 = 0 ∧ e0 = 0) := Lib.hid (by
        have := HR.out
        rw [drop_end (Nat.le_refl _), tkz_nil] at this
        unfold combs at this
        simp only [ne_eq, not_true_eq_false, if_false, List.append_nil, Prod.mk.injEq] at this
        exact ⟨this.1.symm, this.2.1.symm, this.2.2.symm⟩)
      obtain ⟨rfl, rfl, rfl⟩ := HN.out
      go_wp2
      go_ret3
      exact ⟨_, rfl, own_tl HO.out, hB⟩
end Go.Proofs.Ytmpjdlhigmofdaa
namespace Go.Proofs.Ytmpjdlhigmofdaa
open Go.RowKit lex

theorem guard_tok : Try.prog.eqGuardType Try.prog.depth 68 = false := by kernel_rfl
theorem in_tok (k n l : Int) (x : ByteArray) (w : World) : (Op.equalIn 10000 68 (.agg #[.int .i64 k, .string x, .int .i64 n, .int .i64 l]) (.agg #[.int .i64 k, .string x, .int .i64 n, .int .i64 l])).run Try.prog w = .ok true w := by
  have hu : Try.prog.underlying 68 = some (.struct (Try.prog.fieldsOf 68)) := by kernel_rfl
  have hp : Try.prog.stoodInHeld 68 = false := by kernel_rfl
  rw [run_equalIn_agg w 9999 _ _ _ hu hp]
  simp [go_sem, Op.eqFields, Program.fieldsOf, Try.underlying68, Try.underlying3, Try.underlying9]
theorem eql_tok (k n l : Int) (x : ByteArray) (w : World) : (binOp .eql 68 (.agg #[.int .i64 k, .string x, .int .i64 n, .int .i64 l]) (.agg #[.int .i64 k, .string x, .int .i64 n, .int .i64 l])).run Try.prog w = .ok (.bool true) w := by
  rw [run_eql_struct, in_tok]; rfl
theorem neq_tok (k n l : Int) (x : ByteArray) (w : World) : (binOp .neq 68 (.agg #[.int .i64 k, .string x, .int .i64 n, .int .i64 l]) (.agg #[.int .i64 k, .string x, .int .i64 n, .int .i64 l])).run Try.prog w = .ok (.bool false) w := by
  rw [run_neq_struct, in_tok]; rfl
end Go.Proofs.Ytmpjdlhigmofdaa
namespace Go.Proofs.Ytmpjdlhigmofdaa
open Go.RowKit lex

theorem below_drewT (w : World) (n : Nat) : Below w.heap.size w (w.drewN n) := ⟨rfl, rfl, rfl, Nat.le_refl _, fun _ _ => rfl⟩
set_option maxRecDepth 100000 in
set_option maxHeartbeats 4000000 in
theorem rsame_some (A B : Addr) (c d : Nat) (l : List Tok) (w : World) (hm : l.length ≤ 1000000) (h0 : 0 < l.length) (ha : Hid (Tl w (.slice (some A) l.length c) l)) (hb : Hid (Tl w (.slice (some B) l.length d) l)) :
    Calls Try.prog 19 #[.slice (some A) l.length c, .slice (some B) l.length d] w fun e w' => e = .returned (.bool true) ∧ Below w.heap.size w w' := by
  have hg := guard_tok
  go_enter Try.func19, Try.ntmps19
  go_wp2_with fail
  go_loopw [5] (fun i wr => ∃ k : Nat, k ≤ l.length ∧ i = .int .i64 k ∧ Below w.heap.size w wr) (fun i _ => l.length - (intOf i).toNat)
  case atStart => exact ⟨0, Nat.zero_le _, rfl, Below.refl _ _⟩
  case round =>
    obtain ⟨k, hk, rfl, hB⟩ := hrel
    rename World => wr
    by_cases hlt : k < l.length
    · obtain ⟨A', eA, _, a0, a1, a2, a3⟩ := (ha.out.keep hB).at' hlt
      obtain ⟨B', eB, _, b0, b1, b2, b3⟩ := (hb.out.keep hB).at' hlt
      obtain rfl : A = A' := Option.some.inj eA
      obtain rfl : B = B' := Option.some.inj eB
      have hq := neq_tok (tokAt l k).kind (tokAt l k).num (tokAt l k).line ⟨(tokAt l k).text.toArray⟩
      have z0 : (0 : Int) ≤ (k : Int) := by omega
      have z1 : (k : Int) < (l.length : Int) := by omega
      go_wp2_with fail
      go_quiet (fail)
      have hB2 := below_keep (below_drewT wr nq) hB
      generalize wr.drewN nq = wn at hB2 ⊢
      go_wp2
      go_roundw
      case rel => exact ⟨k + 1, by omega, by go_num, hB2⟩
      case measure => simp [intOf]; omega
    · obtain rfl : k = l.length := by omega
      go_wp2
      go_ret
      exact ⟨rfl, hB⟩
theorem rsame_none (ao bo : Option Addr) (c d : Nat) (w : World) :
    Calls Try.prog 19 #[.slice ao 0 c, .slice bo 0 d] w fun e w' => e = .returned (.bool true) ∧ Below w.heap.size w w' := by
  go_enter Try.func19, Try.ntmps19
  go_wp2_with fail
  go_loopw [5] (fun i wr => i = .int .i64 0 ∧ w = wr) (fun _ _ => 0)
  case atStart => exact ⟨rfl, rfl⟩
  case round =>
    obtain ⟨rfl, rfl⟩ := hrel
    go_wp2
    go_ret
    exact ⟨rfl, Below.refl _ _⟩
theorem rsame_of (v1 v2 : Value) (l : List Tok) (w : World) (hm : l.length ≤ 1000000) (ha : Hid (Tl w v1 l)) (hb : Hid (Tl w v2 l)) :
    Calls Try.prog 19 #[v1, v2] w fun e w' => e = .returned (.bool true) ∧ Below w.heap.size w w' := by
  obtain ⟨ao, c, rfl, _, hA⟩ := ha.out
  obtain ⟨bo, d, rfl, _, hB⟩ := hb.out
  rcases Nat.eq_zero_or_pos l.length with h | h
  · rw [h]; exact rsame_none ao bo c d w
  · obtain ⟨A, rfl, _⟩ := hA h
    obtain ⟨B, rfl, _⟩ := hB h
    exact rsame_some A B c d l w hm h ha hb
end Go.Proofs.Ytmpjdlhigmofdaa
namespace Go.Proofs.Ytmpjdlhigmofdaa.prt
open Go.RowKit lex tre

theorem tx_at {Q : ByteArray} (h : Q.data.toList.all isTx = true) {k : Nat} (hk : k < Q.size) : Q[k].toNat = 10 ∨ (32 ≤ Q[k].toNat ∧ Q[k].toNat ≤ 126) := by
  have hm : Q[k] ∈ Q.data.toList := List.mem_iff_getElem?.2 ⟨k, b_dig Q k hk⟩
  have := List.all_eq_true.1 h _ hm
  unfold isTx isPl at this
  rw [Bool.or_eq_true] at this
  rcases this with h | h
  · left; rw [of_decide_eq_true h]; rfl
  · right; exact of_decide_eq_true h
theorem cnt_at {Q : ByteArray} {k : Nat} (hk : k < Q.size) : (Q.data.toList.take (k + 1)).count 10 = (Q.data.toList.take k).count 10 + (if Q[k].toNat = 10 then 1 else 0) := by
  rw [List.take_add_one, b_dig Q k hk, List.count_append]
  by_cases h : Q[k].toNat = 10
  · have e : Q[k] = 10 := UInt8.toNat_inj.1 h
    rw [if_pos h, e]; rfl
  · have e : Q[k] ≠ 10 := fun e => h (by rw [e]; rfl)
    rw [if_neg h]
    show _ + List.count 10 [Q[k]] = _
    rw [List.count_singleton, if_neg (by simpa using e)]
theorem cnt_le (Q : ByteArray) (k : Nat) : (Q.data.toList.take k).count 10 ≤ k := Nat.le_trans List.count_le_length (by rw [List.length_take]; omega)
theorem cnt_all (Q : ByteArray) : (Q.data.toList.take Q.size).count 10 = Q.data.toList.count 10 := by
  rw [List.take_of_length_le (by rw [b_size]; exact Nat.le_refl _)]

theorem rcount_to (T : Tr) (v : Value) (C : Nat) (w : World) (hT : Hid (TrV w v T)) (hc : cnt T.body ≤ 600) (hC : Hid (cnt T.body = C)) :
    Calls Try.prog 15 #[v] w fun e w' => e = .returned (.int .i64 (C : Int)) ∧ Below w.heap.size w w' := by
  obtain rfl := hC.out
  exact rcount_of v T w hT hc
theorem rclu_len (v : Value) (T : Tr) (L : List (List UInt8)) (w : World) (hT : Hid (TrV w v T)) (hc : cnt T.body ≤ 600) (hL : Hid (clustersT T = L)) :
    Calls Try.prog 16 #[v] w fun e w' => ∃ (ao : Option Addr) (cap : Nat), e = .returned (.slice ao L.length cap) ∧ Below w.heap.size w w' :=
  (rclu_of v T L w hT hc hL).mono (fun e w' ⟨_, he, ⟨ao, cap, hv, _⟩, hb⟩ => ⟨ao, cap, by rw [he, hv], hb⟩)
set_option maxRecDepth 100000 in
set_option maxHeartbeats 8000000 in
theorem wtok (v : Value) (T : Tr) (w : World) (hT : Hid (TrV w v T)) (hc : cnt T.body ≤ 2000000) :
    Calls Try.prog 6 #[v] w fun e w' => e = .returned (.bool true) ∧ Below w.heap.size w w' := by
  have hmx : Try.prog.follows .mixedOrders = true := by kernel_rfl
  obtain ⟨bv, rfl, -, hbs⟩ := id hT.out
  obtain ⟨bo, bn, bc, rfl⟩ : ∃ a n c, bv = .slice a n c := by obtain ⟨a, c, rfl, _⟩ := hbs; exact ⟨_, _, _, rfl⟩
  obtain ⟨X, hX⟩ : ∃ X, bb T.name = X := ⟨_, rfl⟩
  obtain ⟨d, hd⟩ : ∃ d, T.dir = d := ⟨_, rfl⟩
  rw [hX, hd] at hT ⊢
  clear hX hd hbs
  have hB := al1 w (.cells #[.string X, .bool d, .slice bo bn bc] 24)
  have HT0 := Lib.hid (hT.out.keep hB)
  obtain ⟨c0, c1, c2⟩ := at3_new w X d (.slice bo bn bc) 24
  clear hT
  go_enter Try.func6, Try.ntmps6
  go_wp2_with fail
  refine (small_of T _ _ HT0 hc).mono ?_
  rintro e w2 ⟨s, rfl, hs, hb2⟩
  have hB2 := below_keep hb2 hB
  have HT2 := Lib.hid (HT0.out.keep hb2)
  have k0 := cell_keep hb2 c0
  have k1 := cell_keep hb2 c1
  have k2 := cell_keep hb2 c2
  clear hb2 hB HT0 c0 c1 c2
  cases s
  · go_wp2_with (go_at_call 8; refine (pawk _).mono ?_; rintro e w3 ⟨rfl, hb3⟩)
    go_ret
    exact ⟨rfl, below_keep hb3 hB2⟩
  obtain ⟨h60, hok⟩ := hs rfl
  have HO := Lib.hid hok
  have H60 := Lib.hid h60
  have h600 : cnt T.body ≤ 600 := by omega
  obtain ⟨E, hE⟩ : ∃ E, validT T = E := ⟨_, rfl⟩
  have HE := Lib.hid hE
  clear hs hok h60 hE
  go_wp2_with fail
  refine (rvalid_of _ T E _ HT2 h600 HE).mono ?_
  rintro e w3 ⟨rfl, hb3⟩
  have hB3 := below_keep hb3 hB2
  have HT3 := Lib.hid (HT2.out.keep hb3)
  have c0 := cell_keep hb3 k0
  have c1 := cell_keep hb3 k1
  have c2 := cell_keep hb3 k2
  clear k0 k1 k2 HT2 hb3 hB2
  by_cases hz : E ≠ 0
  · have b1 : (E != 0) = true := by simp [hz]
    go_wp2_with (go_at_call 8; refine (pawk _).mono ?_; rintro e w4 ⟨rfl, hb4⟩)
    go_ret
    exact ⟨rfl, below_keep hb4 hB3⟩
  obtain rfl := Decidable.not_not.1 hz
  clear hz
  obtain ⟨Q, hQ⟩ : ∃ Q, bb (prtT prL T) = Q := ⟨_, rfl⟩
  have HQ : Hid (prtT prL T = Q.data.toList) := Lib.hid (by rw [← hQ])
  have hqz : Q.size ≤ 900000 := by rw [← b_size, ← hQ]; exact prt_len H60.out HO.out
  have hqt : Q.data.toList = txtT prL T := by rw [← HQ.out]; unfold prtT; rw [if_pos HE.out]
  have hln := txt_lines (pr := prL) HE.out
  rw [← hqt] at hln
  have HTX := Lib.hid hln.1
  obtain ⟨L, hL⟩ : ∃ L, clustersT T = L := ⟨_, rfl⟩
  have HL := Lib.hid hL
  have hcn : Q.data.toList.count 10 = 2 + cnt T.body + L.length := by rw [hln.2, hL]
  have hcq : 2 + cnt T.body + L.length ≤ 900000 := by
    have := cnt_le Q Q.size
    rw [cnt_all, hcn] at this
    omega
  have HCN := Lib.hid hcn
  have HG := Lib.hid (txt_toks (pr := prL) prL_form HE.out)
  have HQT := Lib.hid hqt
  have hqm : Q.size ≤ maxLen := Nat.le_trans hqz (by decide)
  clear hQ hqt hln hL hcn
  go_wp2_with fail
  refine (cprint_of T _ Q _ HT3 h600 HO HQ hqz).mono ?_
  rintro e w4 ⟨rfl, hb4⟩
  have hB4 := below_keep hb4 hB3
  have HT4 := Lib.hid (HT3.out.keep hb4)
  have k0 := cell_keep hb4 c0
  have k1 := cell_keep hb4 c1
  have k2 := cell_keep hb4 c2
  clear c0 c1 c2 HT3 hb4 hB3
  go_wp2_with fail
  go_loop [4, 5] (fun l i => ∃ k : Nat, k ≤ Q.size ∧ i = .int .i64 k ∧ l = .int .i64 ((Q.data.toList.take k).count 10 : Nat)) (fun _ i => Q.size - (intOf i).toNat)
  case atStart => exact ⟨0, Nat.zero_le _, rfl, rfl⟩
  case round =>
    obtain ⟨k, hk, rfl, rfl⟩ := hrel
    by_cases hlt : k < Q.size
    · obtain ⟨m, hm⟩ : ∃ m, (Q.data.toList.take k).count 10 = m := ⟨_, rfl⟩
      have hml : m ≤ k := by rw [← hm]; exact cnt_le Q k
      have hx := tx_at HTX.out hlt
      have hn := cnt_at hlt
      rw [hm] at hn ⊢
      clear hm
      have i1 : (k : Int) < (Q.size : Int) := by omega
      have i0 : (0 : Int) ≤ (k : Int) := by omega
      by_cases c10 : Q[k].toNat = 10
      · have b1 : ((Q[k].toNat : Int) == 10) = true := by rw [beq_iff_eq]; omega
        rw [if_pos c10] at hn
        have HN := Lib.hid hn
        clear hn hx c10
        go_wp2
        go_round
        case rel => exact ⟨k + 1, by omega, by go_num, by rw [HN.out]; go_num⟩
        case measure => simp [intOf]; omega
      · have b1 : ((Q[k].toNat : Int) == 10) = false := by rw [beq_eq_false_iff_ne]; omega
        have d1 : decide ((Q[k].toNat : Int) < 32) = false := decide_eq_false (by omega)
        have d2 : decide ((126 : Int) < (Q[k].toNat : Int)) = false := decide_eq_false (by omega)
        rw [if_neg c10] at hn
        have HN := Lib.hid hn
        clear hn hx c10
        go_wp2
        go_round
        case rel => exact ⟨k + 1, by omega, by go_num, by rw [HN.out]; rfl⟩
        case measure => simp [intOf]; omega
    · obtain rfl : k = Q.size := by omega
      have hkn : Hid ((Q.data.toList.take Q.size).count 10 = 2 + cnt T.body + L.length) := Lib.hid (by rw [cnt_all]; exact HCN.out)
      rw [hkn.out]
      clear hkn
      obtain ⟨C, hC⟩ : ∃ C, cnt T.body = C := ⟨_, rfl⟩
      have HCC := Lib.hid hC
      rw [hC] at hcq ⊢
      clear hC
      have wq1 : IntKind.i64.wrap (2 + (C : Int)) = 2 + (C : Int) := IntWalk.i64_in _ (by omega)
      have wq2 : IntKind.i64.wrap (2 + (C : Int) + (L.length : Int)) = 2 + (C : Int) + (L.length : Int) := IntWalk.i64_in _ (by omega)
      have hne : (((2 : Int) + (C : Int) + (L.length : Int)) != ((2 : Int) + (C : Int) + (L.length : Int))) = false := by simp
      have heq : (((2 : Int) + (C : Int) + (L.length : Int)) == ((2 : Int) + (C : Int) + (L.length : Int))) = true := by simp
      go_wp2_with fail
      have hP0 : Below w4.heap.size w4 w4 ∧ w4.cell? ⟨w.heap.size, 0, none⟩ = some (.string X) ∧ w4.cell? ⟨w.heap.size, 1, none⟩ = some (.bool d) ∧ w4.cell? ⟨w.heap.size, 2, none⟩ = some (.slice bo bn bc) := ⟨Below.refl _ _, k0, k1, k2⟩
      go_region_held3 (fun w' => Below w4.heap.size w4 w' ∧ w'.cell? ⟨w.heap.size, 0, none⟩ = some (.string X) ∧ w'.cell? ⟨w.heap.size, 1, none⟩ = some (.bool d) ∧ w'.cell? ⟨w.heap.size, 2, none⟩ = some (.slice bo bn bc))
        (first | assumption | (with_reducible refine p_drew ?_; assumption))
        (first
        | (go_at_call 15; (with_reducible refine (callP (fun w h => rcount_to T _ C w h h600 HCC) HT4 (by assumption)).mono ?_); rintro e w6 ⟨rfl, hb6⟩; have hP := t_keep (by assumption) hb6)
        | (go_at_call 16; (with_reducible refine (callP (fun w h => rclu_len _ T L w h h600 HL) HT4 (by assumption)).mono ?_); rintro e w6 ⟨ao6, cap6, rfl, hb6⟩; have hP := t_keep (by assumption) hb6))
      all_goals
        go_split_ands
        by_cases hbig : 16384 < Q.size
        · have HE2 : Hid (tokE Q.data.toList = ([], 0, 2)) := Lib.hid (by unfold tokE; rw [if_pos (by rw [b_size]; exact hbig)])
          have g1 : decide ((16384 : Int) < (Q.size : Int)) = true := decide_eq_true (by omega)
          go_wp2_with fail
          refine (tokenize_any Q _ _ _ _ hqm HE2).mono ?_
          rintro e w7 ⟨v7, rfl, hT7, hb7⟩
          clear hT7
          go_wp2_with (go_at_call 8; refine (pawk _).mono ?_; rintro e w8 ⟨rfl, hb8⟩)
          go_ret
          exact ⟨ret_bool (by simp), below_keep hb8 (below_keep hb7 (below_keep (by assumption) hB4))⟩
        · have g1 : decide ((16384 : Int) < (Q.size : Int)) = false := decide_eq_false (by omega)
          obtain ⟨K, l0, e0, ht⟩ : ∃ K l0 e0, tkz prL Q.data.toList 1 false = (K, l0, e0) := ⟨_, _, _, rfl⟩
          have hg := HG.out 1
          rw [← HQT.out, ht] at hg
          obtain rfl : e0 = 0 := hg.1
          have h0 := tkz_line0 prL Q.data.toList.length Q.data.toList 1 false (Nat.le_refl _) (by rw [ht])
          rw [ht] at h0
          obtain rfl : l0 = 0 := h0
          have hcc := tkz_count prL Q.data.toList.length Q.data.toList 1 false (Nat.le_refl _)
          rw [ht, b_size] at hcc
          have hK4 : 4 ≤ K.length := hg.2
          have hK : K.length ≤ 1000000 := by simp only at hcc; omega
          have HR := Lib.hid ht
          have HE2 : Hid (tokE Q.data.toList = (K, 0, 0)) := Lib.hid (by rw [tokE_small (by rw [b_size]; omega)]; exact ht)
          have g4 : decide ((4 : Int) ≤ (K.length : Int)) = true := decide_eq_true (by omega)
          clear ht hg hcc
          go_wp2_with fail
          refine (tokenize_any Q _ _ _ _ hqm HE2).mono ?_
          rintro e w7 ⟨v7, rfl, hT7, hb7⟩
          have hB7 := below_keep hb7 (below_keep (by assumption) hB4)
          clear hb7
          go_wp2_with fail
          refine (rtokenize_of _ _ _ _ _ (by omega) HR).mono ?_
          rintro e w8 ⟨v8, rfl, hT8, hb8⟩
          have hT7 := hT7.keep hb8
          have hB8 := below_keep hb8 hB7
          clear hb8 hB7
          obtain ⟨ao7, cap7, rfl, -, -⟩ := id hT7
          have HT7 := Lib.hid hT7
          have HT8 := Lib.hid hT8
          clear hT7 hT8
          go_wp2_with fail
          refine (rsame_of _ _ _ _ hK HT7 HT8).mono ?_
          rintro e w9 ⟨rfl, hb9⟩
          have hB9 := below_keep hb9 hB8
          clear hb9 hB8
          go_wp2_with (go_at_call 8; refine (pawk _).mono ?_; rintro e w10 ⟨rfl, hb10⟩)
          go_ret
          exact ⟨ret_bool (by simp), below_keep hb10 hB9⟩
end Go.Proofs.Ytmpjdlhigmofdaa.prt
