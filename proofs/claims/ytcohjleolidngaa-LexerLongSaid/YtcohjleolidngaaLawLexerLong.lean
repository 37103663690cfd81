/-
  LexerLong: a source of MaxSource blanks is accepted, a longer one refused with the line 0, as the statement says. No condition.
-/
import Derived.Test.YtcohjleolidngaaLexFrame
import Derived.Test.YtcohjleolidngaaRefLex1
import Derived.Test.YtcohjleolidngaaLexCode
namespace Go.Proofs.Ytcohjleolidngaa.llong
open Go.ChangeShapes Go.WideShapes Go.ChangeAt Go.RowKit Go.Joins lex
open Go.ChangeMaps (open_string shut_string)

/-- The bytes while the loop stands at k. -/
def lgX (n k : Nat) : List Value := List.replicate k (.int .u8 32) ++ List.replicate (n - k) (.int .u8 0)
theorem lgX_set (n k : Nat) (h : k < n) : (lgX n k).set k (.int .u8 32) = lgX n (k + 1) := by
  unfold lgX
  rw [show n - k = n - (k + 1) + 1 by omega, List.replicate_succ, List.set_append_right _ _ (by simp), List.length_replicate, Nat.sub_self, List.set_cons_zero, List.replicate_succ' (n := k), List.append_assoc]
  rfl
theorem lgX_at (n k : Nat) (h : k < n) : (lgX n k)[k]? = some (.int .u8 0) := by
  unfold lgX
  rw [List.getElem?_append_right (by simp), List.length_replicate, Nat.sub_self, List.getElem?_replicate, if_pos (by omega)]
theorem lgX_end (n j : Nat) (h : j < n) : (lgX n n)[j]? = some (.int .u8 32) := by
  unfold lgX
  rw [Nat.sub_self, List.replicate_zero, List.append_nil, List.getElem?_replicate, if_pos h]
theorem info_u8 : (Try.prog.info? 5).map (fun i => (i.zero, i.size, i.bytes)) = some (some (.int .u8 0), 1, 1) := by kernel_rfl
theorem tok_blank (n : Nat) : tokE (List.replicate n 32) = if 16384 < n then ([], 0, 2) else ([], 0, 0) := by
  unfold tokE; rw [List.length_replicate, tkz_blank]

set_option maxRecDepth 100000 in
set_option maxHeartbeats 4000000 in
theorem core (C : LexOk) (x n : Nat) (e0 : Int) (w : World) (hx : x ≤ 255) (hn : n = 16384 + x) (HZ : Hid ((x = 0 ∧ e0 = 0) ∨ (0 < x ∧ e0 = 2))) (HT : Hid (tokE (ba (List.replicate n 32)).data.toList = ([], 0, e0))) :
    Calls Try.prog 6 #[.int .u8 (x : Int)] w fun e w' => e = .returned (.bool true) ∧ Below w.heap.size w w' := by
  obtain ⟨i0, hi, hz0, hz1, hz2⟩ := info_parts info_u8
  have hm : (ba (List.replicate n 32)).size ≤ maxLen := by rw [ba_size, List.length_replicate]; unfold maxLen; omega
  have hnm : n ≤ maxLen := by unfold maxLen; omega
  have hnl : (16384 : Int) + (x : Int) = (n : Int) := by omega
  have HNL := Lib.hid hnl
  have HNN := Lib.hid hn
  have hxi : (x : Int) ≤ 255 := by omega
  have hb1 : i0.bytes * n ≤ 281474976710656 := by rw [hz2]; omega
  have hnb : n ≤ 16639 := by omega
  clear hnl hn
  go_enter Try.func6, Try.ntmps6
  go_wp2_with (at_make; refine wpList_make_full _ rfl _ _ 33 rfl w.heap.size 5 i0 (.int .u8 0) 1 Try.underlying33 hi hz0 hz1 .i64 .i64 _ _ n rfl rfl HNL.out HNL.out hb1 hnm (Nat.le_refl _) ?_; intro w1 hown hgrow)
  have hO0 : w1.ownsRow w.heap.size 5 1 (.slice (some ⟨w.heap.size, 0, none⟩) n n) n (lgX n 0) := by
    have e : (madeCells (Value.int .u8 0).cells (n * 1)).toList = lgX n 0 := by
      rw [Nat.mul_one]; exact toList_madeCells_one (.int .u8 0) n
    rw [← e]; exact hown
  have hB0 : Below w.heap.size w w1 := (Below.refl w.heap.size w).grown hgrow (Nat.le_refl _) (fun q hq => by cases hq)
  clear hown hgrow
  go_loopw [4] (fun i wr => ∃ k : Nat, k ≤ n ∧ i = .int .i64 k ∧ wr.ownsRow w.heap.size 5 1 (.slice (some ⟨w.heap.size, 0, none⟩) n n) n (lgX n k) ∧ Below w.heap.size w wr) (fun i _ => n - (intOf i).toNat)
  case atStart => exact ⟨0, Nat.zero_le _, rfl, hO0, hB0⟩
  case round =>
    clear hO0 hB0
    obtain ⟨k, hk, rfl, hO, hB⟩ := hrel
    rename World => wr
    have HO := Lib.hid hO
    clear hO
    by_cases hlt : k < n
    · have hc : wr.cell? ⟨w.heap.size, k, none⟩ = some (.int .u8 0) := by rw [HO.out.cellAt k (by simpa using hlt)]; exact lgX_at n k hlt
      have hf : wr.frozen? ⟨w.heap.size, k, none⟩ = false := HO.out.frozenAt k
      have hS := (HO.out.stored k (.int .u8 32)).1
      rw [lgX_set n k hlt] at hS
      have HS := Lib.hid hS
      have hB2 := hB.setCell (p := ⟨w.heap.size, k, none⟩) (Nat.le_refl _) (.int .u8 32)
      clear hS
      have z0 : (0 : Int) ≤ (k : Int) := by omega
      have z1 : (k : Int) < (n : Int) := by omega
      go_wp2
      go_roundw
      case rel => exact ⟨k + 1, by omega, rfl, HS.out, hB2⟩
      case measure => simp only [intOf]; omega
    · obtain rfl : k = n := by omega
      have hcv := run_convert_bytes_back wr 33 9 5 ⟨w.heap.size, 0, none⟩ k (List.replicate k 32) Try.underlying33 Try.underlying5 Try.underlying9 (fun j hj => by
        rw [List.length_replicate] at hj
        have e : (⟨w.heap.size, 0, none⟩ : Addr).add j = ⟨w.heap.size, j, none⟩ := by unfold Addr.add; split <;> simp_all
        rw [e, HO.out.cellAt j (by simpa using hj), lgX_end k j hj, List.getElem_replicate]
        rfl)
      rw [List.length_replicate] at hcv
      rcases HZ.out with ⟨hx0, he0⟩ | ⟨hx0, he0⟩
      · subst he0
        have hd : decide ((0 : Int) < (x : Int)) = false := by simp; omega
        have hd2 : decide (0 < x) = false := by simp; omega
        clear hx0
        go_wp2_with fail
        refine (C.tokenize _ _ _ _ _ hm HT).mono ?_
        rintro e w3 ⟨v, rfl, hT, hb3⟩
        obtain ⟨ao, cap, rfl, hcap, hA⟩ := hT
        have hb4 := below_keep hb3 hB
        clear hA hcap hb3
        go_wp2_with fail
        refine (awake_any C _).mono ?_
        rintro e w5 ⟨rfl, hb5⟩
        have hb5 := below_keep hb5 hb4
        clear hb4
        go_wp2
        go_ret
        exact ⟨rfl, hb5⟩
      · subst he0
        have hd : decide ((0 : Int) < (x : Int)) = true := by simp; omega
        have hd2 : decide (0 < x) = true := by simp; omega
        go_wp2_with fail
        refine (C.tokenize _ _ _ _ _ hm HT).mono ?_
        rintro e w3 ⟨v, rfl, hT, hb3⟩
        obtain ⟨ao, cap, rfl, hcap, hA⟩ := hT
        have hb4 := below_keep hb3 hB
        clear hA hcap hb3
        go_wp2_with fail
        refine (awake_any C _).mono ?_
        rintro e w5 ⟨rfl, hb5⟩
        have hb5 := below_keep hb5 hb4
        clear hb4
        go_wp2
        go_ret
        exact ⟨rfl, hb5⟩

theorem top (C : LexOk) (x : Int) (h0 : 0 ≤ x) (h1 : x ≤ 255) (w : World) :
    Calls Try.prog 6 #[.int .u8 x] w fun e w' => e = .returned (.bool true) ∧ Below w.heap.size w w' := by
  obtain ⟨k, rfl⟩ : ∃ k : Nat, x = k := ⟨x.toNat, by omega⟩
  have ht := tok_blank (16384 + k)
  by_cases hk : k = 0
  · exact core C k (16384 + k) 0 w (by omega) rfl (Lib.hid (Or.inl ⟨hk, rfl⟩)) (Lib.hid (by rw [ba_list, ht, if_neg (by omega)]))
  · exact core C k (16384 + k) 2 w (by omega) rfl (Lib.hid (Or.inr ⟨by omega, rfl⟩)) (Lib.hid (by rw [ba_list, ht, if_pos (by omega)]))


set_option maxRecDepth 100000 in
theorem lifted (os : Os) (started : os.Started) (H : Type) (enc : TypeId × Value → H) :
    ReturnsInHanded {} Try.checked os 6 .any (Rows.lexerLongSpec.pre6 enc Try.prog Try.f6 Rows.lexerLongRow.domain false) (Rows.lexerLongSpec.post enc Try.prog Try.f6 false true false false) := by
  refine returnsInHanded_of_change (C := Try.checked) own started (by kernel_rfl) Try.func6
    (ChangeSpec.witness6 (enc := enc) (C := Try.checked) false ⟨#[], #[.int .u8 0], []⟩ 8 (by kernel_rfl) (by kernel_rfl) (by kernel_rfl) (by kernel_rfl)) ?_
  intro W base args ds gs before hval0 hW _ _
  have hval : ∀ (j : Nat) t v, Try.f6.params[j]? = some t → args[j]? = some v → Value.okWide Try.prog W .any base t v := hval0
  have hW' := hW
  obtain ⟨p, q, hA0, hV, rfl, hfz, hnd⟩ := hW
  have hA : DataW.TrodAll enc Try.prog W 0 (fun _ => true) true Try.f6.params.toList args.toList ds p := hA0
  rw [Try.params6] at hA hval
  obtain ⟨v0, d0, rfl, rfl, h0⟩ := trodAll_one hA
  obtain ⟨rfl, rfl⟩ := trodVars_none hV
  obtain ⟨x0, rfl, rfl, rfl, wx0⟩ := open_int Try.underlying5 (hval 0 5 v0 rfl rfl) h0
  have bx0 := bounds_u8 wx0
  clear hA0 hval0
  simp only [List.append_nil] at hW'
  refine (top lexOk x0 bx0.1 bx0.2 W).mono fun e W' ⟨he, hb⟩ => ?_
  subst he
  exact ⟨_, rfl, _, _, _, [], [], [], hW', trodAll_mk1 (shut_bool Try.underlying4 _), trodAll_mk1 (shut_int Try.underlying5 wx0), rfl, hb.frame _, fun h => by cases h⟩

/-- The statement. -/
theorem holds : Rows.LexerLongSaid :=
  OpenClaim.holds_of_wide 6 Try.f6 rfl rfl rfl rfl rfl rfl rfl ⟨rfl, rfl, rfl, rfl, rfl⟩ rfl rfl rfl rfl rfl (by kernel_rfl) Try.func6 (by kernel_rfl)
    (of_decide_eq_true (by kernel_rfl)) (by unfold Func.isWrapper; first | (rw [if_pos (by decide +kernel)]; kernel_rfl) | (rw [if_neg (by decide +kernel)]; exact ⟨rfl, rfl⟩))
    (fun os started H enc _ => lifted os started H enc)
#print axioms holds

end Go.Proofs.Ytcohjleolidngaa.llong
