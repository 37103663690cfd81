/-
  What few, same and ports of the statements of layer 10 return. No condition.
  What is asked of the code of layer 10: each exported function answers as its plain function says. The statements' walks take it as a premise; a text of its own proves it. No condition.
-/
import Derived.Test.YthcglcnhdgeaeaaDoorMAt
import Derived.Test.YthcglcnhdgeaeaaDoorMTn
namespace Go.Proofs.YthcglcnhdgeaeaaDoor.att
open Go.RowKit lex tre

/-- What few answers: the sums of lengths wrap round as ints do. -/
def sumW (r : Pr) : Int := IntKind.i64.wrap ((r.1.length : Int) + (r.2.length : Int))
def fewV (l : List Pr) : Bool := decide (l.length ≤ 60) && l.all fun r => decide (sumW r ≤ 300)
set_option maxRecDepth 100000 in
set_option maxHeartbeats 4000000 in
theorem rfew_of (v : Value) (l : List Pr) (r : Bool) (w : World) (h : Hid (Prs w v l)) (hr : Hid (fewV l = r)) :
    Calls Tryd.prog 9 #[v] w fun e w' => e = .returned (.bool r) ∧ Below w.heap.size w w' := by
  obtain ⟨ao, cap, rfl, hc, hm, _⟩ := id h.out
  unfold maxLen at hm
  have hlm : l.length ≤ 9223372036854775807 := by omega
  have hn := hr.out
  unfold fewV at hn
  clear hr hc hm
  by_cases hl : 60 < l.length
  · rw [decide_eq_false (by omega), Bool.false_and] at hn
    subst hn
    have bs : decide ((60 : Int) < (l.length : Int)) = true := by simp; omega
    go_enter Tryd.func9, Tryd.ntmps9
    go_wp2
    go_ret
    exact ⟨rfl, Below.refl _ _⟩
  rw [decide_eq_true (by omega), Bool.true_and] at hn
  have bs : decide ((60 : Int) < (l.length : Int)) = false := by simp; omega
  have HF0 : Hid ((l.drop 0).all (fun r => decide (sumW r ≤ 300)) = r) := Lib.hid hn
  clear hn
  go_enter Tryd.func9, Tryd.ntmps9
  go_wp2_with fail
  go_loopw [3] (fun iv wr => ∃ i : Nat, iv = .int .i64 i ∧ i ≤ l.length ∧ (l.drop i).all (fun r => decide (sumW r ≤ 300)) = r ∧ Below w.heap.size w wr) (fun iv _ => l.length - (intOf iv).toNat)
  case atStart => exact ⟨0, rfl, Nat.zero_le _, HF0.out, Below.refl _ _⟩
  case round =>
    obtain ⟨i, rfl, hi, hfe, hbl⟩ := hrel
    rename World => wr
    have HBl := Lib.hid hbl
    clear HF0 hbl
    by_cases hlt : i < l.length
    case neg =>
      obtain rfl : i = l.length := by omega
      rw [List.drop_length] at hfe
      have he : true = r := hfe
      subst he
      go_wp2
      go_ret
      exact ⟨rfl, HBl.out⟩
    obtain ⟨A, rfl, q0, q1, -, -⟩ := (h.out.keep HBl.out).get hlt
    rw [List.drop_eq_getElem_cons hlt, List.all_cons] at hfe
    obtain ⟨u, hu⟩ : ∃ u, l[i] = u := ⟨_, rfl⟩
    rw [hu] at q0 q1 hfe
    obtain ⟨u1, u2⟩ := u
    simp only at q0 q1
    have i0 : (0 : Int) ≤ (i : Int) := by omega
    have i1 : (i : Int) < (l.length : Int) := by omega
    obtain ⟨S, hS⟩ : ∃ S, IntKind.i64.wrap ((u1.length : Int) + (u2.length : Int)) = S := ⟨_, rfl⟩
    have hS2 : sumW (u1, u2) = S := hS
    rw [hS2] at hfe
    obtain ⟨big, hbig⟩ : ∃ b, decide (300 < S) = b := ⟨_, rfl⟩
    have hd : decide (S ≤ 300) = !big := by rw [← hbig]; by_cases q : 300 < S <;> simp [q] <;> omega
    rw [hd] at hfe
    have HF := Lib.hid hfe
    clear hu hfe hd hS2
    go_wp2_with fail
    go_quiet (fail)
    have HB3 := Lib.hid (below_keep (drew_n wr nq) HBl.out)
    generalize wr.drewN nq = w3 at HB3 ⊢
    cases big
    · have hf := HF.out
      rw [Bool.not_false, Bool.true_and] at hf
      have HF3 := Lib.hid hf
      clear hf
      go_wp2
      go_roundw
      case rel => exact ⟨i + 1, by go_num, by omega, HF3.out, HB3.out⟩
      case measure => simp [intOf]; omega
    · have hf := HF.out
      rw [Bool.not_true, Bool.false_and] at hf
      subst hf
      go_wp2
      go_ret
      exact ⟨rfl, HB3.out⟩
set_option maxRecDepth 100000 in
set_option maxHeartbeats 4000000 in
theorem lsame_of (v v' : Value) (l : List Pr) (w : World) (h1 : Hid (Prs w v l)) (h2 : Hid (Prs w v' l)) :
    Calls Tryd.prog 17 #[v, v'] w fun e w' => e = .returned (.bool true) ∧ Below w.heap.size w w' := by
  have hmx : Tryd.prog.follows .mixedOrders = true := by kernel_rfl
  obtain ⟨ao, cap, rfl, hc1, hm1, _⟩ := id h1.out
  obtain ⟨bo, cbp, rfl, hc2, hm2, _⟩ := id h2.out
  unfold maxLen at hm1 hm2
  have hlm : l.length ≤ 9223372036854775807 := by omega
  have b0 : ((l.length : Int) != (l.length : Int)) = false := by simp
  have hga := guard_att
  clear hc1 hm1 hc2 hm2
  go_enter Tryd.func17, Tryd.ntmps17
  go_wp2_with fail
  go_loopw [5] (fun iv wr => ∃ k : Nat, iv = .int .i64 k ∧ k ≤ l.length ∧ Below w.heap.size w wr) (fun iv _ => l.length - (intOf iv).toNat)
  case atStart => exact ⟨0, rfl, Nat.zero_le _, Below.refl _ _⟩
  case round =>
    obtain ⟨k, rfl, hk, hB⟩ := hrel
    rename World => wr
    by_cases hlt : k < l.length
    · obtain ⟨A, rfl, q0, q1, -, -⟩ := (h1.out.keep hB).get hlt
      obtain ⟨B, rfl, p0, p1, -, -⟩ := (h2.out.keep hB).get hlt
      obtain ⟨u, hu⟩ : ∃ u, l[k] = u := ⟨_, rfl⟩
      rw [hu] at q0 q1 p0 p1
      have i0 : (0 : Int) ≤ (k : Int) := by omega
      have i1 : (k : Int) < (l.length : Int) := by omega
      have hneq := neq_att u u false (Lib.hid (by simp))
      clear hu
      go_wp2_with fail
      go_quiet (fail)
      have hB7 := below_keep (drew_n wr nq) hB
      generalize wr.drewN nq = wn at hB7 ⊢
      go_wp2
      go_roundw
      case rel => exact ⟨k + 1, by go_num, by omega, hB7⟩
      case measure => simp [intOf]; omega
    · obtain rfl : k = l.length := by omega
      go_wp2
      go_ret
      exact ⟨rfl, hB⟩
theorem guard_po : Tryd.prog.eqGuardType Tryd.prog.depth 49 = false := by kernel_rfl
theorem neq_po (u v : Pt) (dq : Bool) (h : Hid (decide (u ≠ v) = dq)) (w : World) : (binOp .neq 49 (.agg #[.string (bb u.1), .int .i64 u.2]) (.agg #[.string (bb v.1), .int .i64 v.2])).run Tryd.prog w = .ok (.bool dq) w := by
  have hu : Tryd.prog.underlying 49 = some (.struct (Tryd.prog.fieldsOf 49)) := by kernel_rfl
  have hp : Tryd.prog.stoodInHeld 49 = false := by kernel_rfl
  obtain ⟨a, b⟩ := u
  obtain ⟨c, d⟩ := v
  rw [run_neq_struct, run_equalIn_agg w 9999 _ _ _ hu hp, ← h.out]
  by_cases h1 : a = c <;> by_cases h2 : b = d <;> simp [go_sem, Op.eqFields, Program.fieldsOf, Tryd.underlying49, Tryd.underlying9, Tryd.underlying3, ByteArray.toList_eq, h1, h2]
set_option maxRecDepth 100000 in
set_option maxHeartbeats 4000000 in
theorem lports_of (v v' : Value) (l : List Pt) (w : World) (h1 : Hid (Pos w v l)) (h2 : Hid (Pos w v' l)) :
    Calls Tryd.prog 24 #[v, v'] w fun e w' => e = .returned (.bool true) ∧ Below w.heap.size w w' := by
  have hmx : Tryd.prog.follows .mixedOrders = true := by kernel_rfl
  obtain ⟨ao, cap, rfl, hc1, hm1, _⟩ := id h1.out
  obtain ⟨bo, cbp, rfl, hc2, hm2, _⟩ := id h2.out
  unfold maxLen at hm1 hm2
  have hlm : l.length ≤ 9223372036854775807 := by omega
  have b0 : ((l.length : Int) != (l.length : Int)) = false := by simp
  have hga := guard_po
  clear hc1 hm1 hc2 hm2
  go_enter Tryd.func24, Tryd.ntmps24
  go_wp2_with fail
  go_loopw [5] (fun iv wr => ∃ k : Nat, iv = .int .i64 k ∧ k ≤ l.length ∧ Below w.heap.size w wr) (fun iv _ => l.length - (intOf iv).toNat)
  case atStart => exact ⟨0, rfl, Nat.zero_le _, Below.refl _ _⟩
  case round =>
    obtain ⟨k, rfl, hk, hB⟩ := hrel
    rename World => wr
    by_cases hlt : k < l.length
    · obtain ⟨A, rfl, q0, q1⟩ := (h1.out.keep hB).get hlt
      obtain ⟨B, rfl, p0, p1⟩ := (h2.out.keep hB).get hlt
      obtain ⟨u, hu⟩ : ∃ u, l[k] = u := ⟨_, rfl⟩
      rw [hu] at q0 q1 p0 p1
      have i0 : (0 : Int) ≤ (k : Int) := by omega
      have i1 : (k : Int) < (l.length : Int) := by omega
      have hneq := neq_po u u false (Lib.hid (by simp))
      clear hu
      go_wp2_with fail
      go_quiet (fail)
      have hB7 := below_keep (drew_n wr nq) hB
      generalize wr.drewN nq = wn at hB7 ⊢
      go_wp2
      go_roundw
      case rel => exact ⟨k + 1, by go_num, by omega, hB7⟩
      case measure => simp [intOf]; omega
    · obtain rfl : k = l.length := by omega
      go_wp2
      go_ret
      exact ⟨rfl, hB⟩
end Go.Proofs.YthcglcnhdgeaeaaDoor.att
namespace Go.Proofs.YthcglcnhdgeaeaaDoor.att
open Go.RowKit lex tre

/-- Texts of a list that a machine can hold with ease. -/
def Small (l : List Pr) : Prop := ∀ r ∈ l, r.1.length ≤ 1000 ∧ r.2.length ≤ 1000
/-- The library's variable MaxLen holds some number. -/
def Mx (w : World) : Prop := ∃ m : Int, w.cell? ⟨2, 0, none⟩ = some (.int .i64 m)
theorem Mx.keep {w w1 : World} (h : Mx w) (hb : Below w.heap.size w w1) : Mx w1 := by
  obtain ⟨m, hm⟩ := h
  exact ⟨m, by rw [hb.cell (p := ⟨2, 0, none⟩) (World.block_lt_of_cell? w _ hm)]; exact hm⟩
theorem mxh {w w1 : World} (h : Hid (Mx w)) (hb : Below w.heap.size w w1) : Hid (Mx w1) := Lib.hid (h.out.keep hb)
structure AttOk : Prop where
  check : ∀ (k : Int) (a : Pr) (e0 : Int) (w : World), Hid (Mx w) → a.1.length ≤ 1000 → a.2.length ≤ 1000 → Hid (checkL k a = e0) → Calls Tryd.prog 11 #[.int .i64 k, .agg #[.string (bb a.1), .string (bb a.2)]] w fun e w' => e = .returned (.int .i64 e0) ∧ Below w.heap.size w w'
  checkAll : ∀ (k : Int) (v : Value) (l : List Pr) (e0 : Int) (w : World), Hid (Mx w) → Hid (Prs w v l) → l.length ≤ 60 → Hid (Small l) → Hid (chkL k l = e0) → Calls Tryd.prog 13 #[.int .i64 k, v] w fun e w' => e = .returned (.int .i64 e0) ∧ Below w.heap.size w w'
  merge : ∀ (v v2 : Value) (l m : List Pr) (w : World), Hid (Prs w v l) → Hid (Prs w v2 m) → l.length ≤ 60 → m.length ≤ 60 → Hid (Bnd l) → Hid (Bnd m) → Calls Tryd.prog 18 #[v, v2] w fun e w' => ∃ v', e = .returned v' ∧ Prs w' v' (mergeL l m) ∧ Below w.heap.size w w'
  get : ∀ (v : Value) (l : List Pr) (s : ByteArray) (x : List UInt8) (r : Bool) (w : World), Hid (Prs w v l) → l.length ≤ 60 → Hid (getL l s.data.toList = (x, r)) → Calls Tryd.prog 15 #[v, .string s] w fun e w' => e = .returned (.tuple #[.string (bb x), .bool r]) ∧ Below w.heap.size w w'
  number : ∀ (k : Int) (v : Value) (l : List Pr) (s : ByteArray) (n : Int) (w : World), Hid (Prs w v l) → l.length ≤ 60 → s.size ≤ maxLen → Hid (numL k l s.data.toList = n) → Calls Tryd.prog 20 #[.int .i64 k, v, .string s] w fun e w' => e = .returned (.int .i64 n) ∧ Below w.heap.size w w'
  ports : ∀ (s : ByteArray) (l : List Pt) (e0 : Int) (w : World), Hid (Mx w) → s.size ≤ 1000 → Hid (portsL s.data.toList = (l, e0)) → Calls Tryd.prog 22 #[.string s] w fun e w' => ∃ v, e = .returned (.tuple #[v, .int .i64 e0]) ∧ Pos w' v l ∧ Below w.heap.size w w'
theorem prs_lit (w : World) (l : List Pr) (hl : l.length ≤ maxLen) (hb : Bnd l) (t : TypeId) : Prs (w.alloc (.cells (l.flatMap prC).toArray t)) (.slice (some ⟨w.heap.size, 0, none⟩) l.length l.length) l := by
  have h := World.ownsRow_lit (base := 0) (e := t) (size := 2) w (l.flatMap prC).toArray l.length (Nat.zero_le _) hl (by rw [List.size_toArray]; exact flat_len prC 2 (fun _ => rfl) l)
  exact own_prs (by simpa using h) hb
theorem pos_lit (w : World) (l : List Pt) (hl : l.length ≤ maxLen) : Pos (w.alloc (.cells (l.flatMap poC).toArray 49)) (.slice (some ⟨w.heap.size, 0, none⟩) l.length l.length) l := by
  have h := World.ownsRow_lit (base := 0) (e := 49) (size := 2) w (l.flatMap poC).toArray l.length (Nat.zero_le _) hl (by rw [List.size_toArray]; exact flat_len poC 2 (fun _ => rfl) l)
  exact Prow.pos (B := 0) (by unfold Prow; simpa using h)
theorem bnd_small {l : List Pr} (h : l.all (fun r => decide (r.1.length ≤ 100) && decide (r.2.length ≤ 100)) = true) : Bnd l ∧ Small l := by
  rw [List.all_eq_true] at h
  constructor
  · intro r hr
    have := h r hr
    simp only [Bool.and_eq_true, decide_eq_true_eq] at this
    unfold maxLen; omega
  · intro r hr
    have := h r hr
    simp only [Bool.and_eq_true, decide_eq_true_eq] at this
    omega
theorem x_ports1 : portsL [105, 110, 32, 116, 111, 112, 44, 32, 111, 117, 116, 32, 98, 111, 116, 116, 111, 109] = ([([105, 110], 0), ([111, 117, 116], 2)], 0) := by kernel_rfl
theorem x_ports2 : portsL [97, 32, 117, 112] = ([], 4) := by kernel_rfl
theorem x_ports3 : portsL [97, 32, 116, 111, 112, 44, 32, 97, 32, 108, 101, 102, 116] = ([], 6) := by kernel_rfl
theorem x_merge : mergeL [([98], [49]), ([97], [50])] [([98], [51])] = [([97], [50]), ([98], [51])] := by kernel_rfl
theorem x_check1 : checkL 1 ([119, 105, 100, 116, 104], [49, 50, 46, 53]) = 0 := by kernel_rfl
theorem x_check2 : checkL 1 ([119, 105, 100, 116, 104], [48]) = 7 := by kernel_rfl
theorem x_check3 : checkL 3 ([119, 105, 100, 116, 104], [49]) = 1 := by kernel_rfl
theorem x_num1 : numL 1 [] [119, 105, 100, 116, 104] = 20000 := by kernel_rfl
theorem x_num2 : numL 2 [([119, 101, 105, 103, 104, 116], [51])] [119, 101, 105, 103, 104, 116] = 3 := by kernel_rfl
end Go.Proofs.YthcglcnhdgeaeaaDoor.att
