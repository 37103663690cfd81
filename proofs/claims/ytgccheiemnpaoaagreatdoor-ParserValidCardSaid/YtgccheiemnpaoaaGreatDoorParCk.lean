/-
  The landed parser's check and the deferred closures of Parse and ParseAttrs. Condition: a tree in memory, of at most 60000 statements.
-/
import Derived.Test.YtgccheiemnpaoaaGreatDoorMPt
import Derived.Test.YtgccheiemnpaoaaGreatDoorMTc
import Derived.Recover
namespace Go.Proofs.YtgccheiemnpaoaaGreatDoor.par
open Go.RowKit lex tre prt

set_option maxRecDepth 100000 in
theorem check_ok (v : Value) (T : Tr) (w : World) (h : Hid (TrV w v T)) (hn : cnt T.body ≤ 60000) (hv : Hid (validT T = 0)) :
    Calls Tryz.prog 24 #[v] w fun e w' => e = .returned (.tuple #[]) ∧ Below w.heap.size w w' := by
  obtain ⟨bv, rfl, -, hs⟩ := id h.out
  obtain ⟨bo, bc, rfl⟩ : ∃ ao cap, bv = .slice ao T.body.length cap := by obtain ⟨ao, cap, e, _⟩ := hs; exact ⟨ao, cap, e⟩
  have hal := al1 w (.cells #[.string (bb T.name), .bool T.dir, .slice bo T.body.length bc] 24)
  have HT := Lib.hid (h.out.keep hal)
  have HV := Lib.hid (valid_of _ T 0 _ HT hn hv)
  have HB := Lib.hid hal
  obtain ⟨N, hN⟩ : ∃ N, bb T.name = N := ⟨_, rfl⟩
  rw [hN] at HV HB ⊢
  clear hs hal hN
  go_enter Tryz.func24, Tryz.ntmps24
  go_wp2_with fail
  refine HV.out.mono ?_
  rintro e w1 ⟨rfl, hb1⟩
  have hb := below_keep hb1 HB.out
  clear hb1
  go_wp2
  go_end0
  exact ⟨rfl, hb⟩
set_option maxRecDepth 100000 in
theorem check_no (v : Value) (T : Tr) (k : Int) (w : World) (h : Hid (TrV w v T)) (hn : cnt T.body ≤ 60000) (hv : Hid (validT T = k)) (hk : k ≠ 0) :
    Calls Tryz.prog 24 #[v] w fun e w' => e = .panicked (pan 0 k) ∧ Below w.heap.size w w' := by
  obtain ⟨bv, rfl, -, hs⟩ := id h.out
  obtain ⟨bo, bc, rfl⟩ : ∃ ao cap, bv = .slice ao T.body.length cap := by obtain ⟨ao, cap, e, _⟩ := hs; exact ⟨ao, cap, e⟩
  have hal := al1 w (.cells #[.string (bb T.name), .bool T.dir, .slice bo T.body.length bc] 24)
  have HT := Lib.hid (h.out.keep hal)
  have HV := Lib.hid (valid_of _ T k _ HT hn hv)
  have HB := Lib.hid hal
  have b1 : (k != 0) = true := by rw [bne_iff_ne]; exact hk
  obtain ⟨N, hN⟩ : ∃ N, bb T.name = N := ⟨_, rfl⟩
  rw [hN] at HV HB ⊢
  clear hs hal hN
  go_enter Tryz.func24, Tryz.ntmps24
  go_wp2_with fail
  refine HV.out.mono ?_
  rintro e w1 ⟨rfl, hb1⟩
  have hb := below_keep hb1 HB.out
  clear hb1
  go_wp2
  exact ⟨rfl, rfl, hb⟩
/-- A later world that drew. -/
theorem cell_dw {w : World} {a : Addr} {v : Value} (h : w.cell? a = some v) : w.drew.cell? a = some v := h
theorem bl_set {n g o : Nat} {W w : World} {v : Value} (hg : n ≤ g) (h : Below n W w) : Below n W (w.setCell ⟨g, o, none⟩ v) := h.setCell hg _
theorem blk_dw {w : World} {g : Nat} {t : TypeId} {arr : Array Value} (h : blk w g t arr) : blk w.drew g t arr := h
/-- What the closure leaves in the three results. -/
def ctQ (n0 g1 g2 : Nat) (n e0 : Int) (w1 : World) : Exit → Act → World → Prop
  | .normal, a, w' => a.defers = [] ∧ blk w' n0 24 trZ ∧ blk w' g1 3 #[.int .i64 n] ∧ blk w' g2 26 #[.int .i64 e0] ∧ Below n0 w1 w'
  | _, _, _ => False
set_option maxRecDepth 100000 in
set_option maxHeartbeats 1600000 in
theorem ct_pan (n0 : Nat) (n e0 : Int) (a b c d e : Value) (w : World) (h0 : Hid (blk w n0 24 #[a, b, c])) (h1 : Hid (blk w (n0 + 1) 3 #[d])) (h2 : Hid (blk w (n0 + 2) 26 #[e])) :
    CallsD Tryz.prog 20 #[.pointer (some ⟨n0, 0, none⟩), .pointer (some ⟨n0 + 1, 0, none⟩), .pointer (some ⟨n0 + 2, 0, none⟩)] (.panicking (pan n e0)) w fun e u' w' =>
      e = .returned (.tuple #[]) ∧ (∃ q, u' = .panicking [{ v := q, recovered := true }]) ∧ blk w' n0 24 trZ ∧ blk w' (n0 + 1) 3 #[.int .i64 n] ∧ blk w' (n0 + 2) 26 #[.int .i64 e0] ∧ Below n0 w w' := by
  have hta : ∀ W, (Instr.typeAssert (.iface 54 (.agg #[.int .i64 n, .int .i64 e0])) 20 54 true).run Tryz.prog W = .ok (.tuple #[.agg #[.int .i64 n, .int .i64 e0], .bool true]) W := fun W => by kernel_rfl
  refine callsD_of_wpS Tryz.func20 rfl fun c₀ cs hu => ?_
  apply wpS_seq
  apply wpS_region
  simp [wpOpsS, go_sem, recoverD, hu, pan, hta, Tryz.ntmps20, Exit.thenS]
  simp only [Array.replicate_succ, Array.replicate_zero, List.push_toArray, List.append_toArray, List.nil_append, List.cons_append, List.setIfInBounds_toArray, List.set_cons_succ, List.set_cons_zero]
  have hz := blk_lt h2.out
  have hf0 : n0 ≠ w.heap.size := by omega
  have hf1 : n0 + 1 ≠ w.heap.size := by omega
  have hf2 : n0 + 2 ≠ w.heap.size := by omega
  have hal := al1 w (.cells #[.int .i64 n, .int .i64 e0] 54)
  have hkf := blk_new w #[.int .i64 n, .int .i64 e0] 54
  have H0 := Lib.hid ((Pk.below (R := w.heap.size) hal).blk hf0 h0.out)
  have H1 := Lib.hid ((Pk.below (R := w.heap.size) hal).blk hf1 h1.out)
  have H2 := Lib.hid ((Pk.below (R := w.heap.size) hal).blk hf2 h2.out)
  have HB : Hid (Below n0 w (w.alloc (.cells #[.int .i64 n, .int .i64 e0] 54))) := Lib.hid (hal.mono (by omega))
  have z0 : (w.alloc (.cells #[.int .i64 n, .int .i64 e0] 54)).cell? ⟨n0, 0, none⟩ = some a := by rw [blk_cell H0.out]; rfl
  have y0 : (w.alloc (.cells #[.int .i64 n, .int .i64 e0] 54)).frozen? ⟨n0, 0, none⟩ = false := blk_free H0.out
  have z1 : (w.alloc (.cells #[.int .i64 n, .int .i64 e0] 54)).cell? ⟨n0, 1, none⟩ = some b := by rw [blk_cell H0.out]; rfl
  have y1 : (w.alloc (.cells #[.int .i64 n, .int .i64 e0] 54)).frozen? ⟨n0, 1, none⟩ = false := blk_free H0.out
  have z2 : (w.alloc (.cells #[.int .i64 n, .int .i64 e0] 54)).cell? ⟨n0, 2, none⟩ = some c := by rw [blk_cell H0.out]; rfl
  have y2 : (w.alloc (.cells #[.int .i64 n, .int .i64 e0] 54)).frozen? ⟨n0, 2, none⟩ = false := blk_free H0.out
  have c1 : (w.alloc (.cells #[.int .i64 n, .int .i64 e0] 54)).cell? ⟨n0 + 1, 0, none⟩ = some d := by rw [blk_cell H1.out]; rfl
  have c2 : (w.alloc (.cells #[.int .i64 n, .int .i64 e0] 54)).cell? ⟨n0 + 2, 0, none⟩ = some e := by rw [blk_cell H2.out]; rfl
  have g1 : (w.alloc (.cells #[.int .i64 n, .int .i64 e0] 54)).frozen? ⟨n0 + 1, 0, none⟩ = false := blk_free H1.out
  have g2 : (w.alloc (.cells #[.int .i64 n, .int .i64 e0] 54)).frozen? ⟨n0 + 2, 0, none⟩ = false := blk_free H2.out
  have p0 : (w.alloc (.cells #[.int .i64 n, .int .i64 e0] 54)).cell? ⟨w.heap.size, 0, none⟩ = some (.int .i64 n) := by rw [blk_cell hkf]; rfl
  have p1 : (w.alloc (.cells #[.int .i64 n, .int .i64 e0] 54)).cell? ⟨w.heap.size, 1, none⟩ = some (.int .i64 e0) := by rw [blk_cell hkf]; rfl
  clear hal hkf h0 h1 h2
  refine wpS_of_wp ?_
  go_wp2_with fail
  refine Code.wp_mono (Q := ctQ n0 (n0 + 1) (n0 + 2) n e0 (w.alloc (.cells #[.int .i64 n, .int .i64 e0] 54))) ?_ ?_
  · intro ex act w' hq
    cases ex with
    | normal =>
      obtain ⟨q0, q1, q2, q3, q4⟩ := hq
      refine ⟨q0, _, rfl, .tuple #[], results_none rfl _ _ _, rfl, ⟨_, rfl⟩, q1, q2, q3, ?_⟩
      exact HB.out.trans q4
    | _ => exact False.elim hq
  clear hta hu HB
  have k1 : n0 < n0 + 1 := by omega
  have k2 : n0 < n0 + 2 := by omega
  have k3 : n0 + 1 ≠ n0 + 2 := by omega
  clear hz
  generalize w.alloc (.cells #[.int .i64 n, .int .i64 e0] 54) = w1 at H0 H1 H2 z0 z1 z2 y0 y1 y2 c1 c2 g1 g2 p0 p1 ⊢
  generalize w.heap.size = F at hf0 hf1 hf2 p0 p1 ⊢
  generalize n0 + 1 = G1 at k1 k3 hf1 H1 c1 g1 ⊢
  generalize n0 + 2 = G2 at k2 k3 hf2 H2 c2 g2 ⊢
  have d0 : n0 ≠ G1 := by omega
  have d1 : n0 ≠ G2 := by omega
  have d2 : G1 ≠ n0 := by omega
  have d3 : G2 ≠ n0 := by omega
  have d4 : G2 ≠ G1 := by omega
  have f0 : F ≠ n0 := by omega
  have f1 : F ≠ G1 := by omega
  have f2 : F ≠ G2 := by omega
  go_region_held3 (fun w' => w'.cell? ⟨F, 0, none⟩ = some (.int .i64 n) ∧ w'.cell? ⟨F, 1, none⟩ = some (.int .i64 e0))
    (exact ⟨by repeat (first | with_reducible assumption | with_reducible refine cell_far ?_ f0 | with_reducible refine cell_far ?_ f1 | with_reducible refine cell_far ?_ f2 | with_reducible refine cell_dw ?_), by repeat (first | with_reducible assumption | with_reducible refine cell_far ?_ f0 | with_reducible refine cell_far ?_ f1 | with_reducible refine cell_far ?_ f2 | with_reducible refine cell_dw ?_)⟩) (fail)
  refine ⟨rfl, ?_, ?_, ?_, ?_⟩
  · exact blk_dw (by have h := (blk_far (o := 0) (blk_far (o := 0) (blk_set (o := 2) (blk_set (o := 1) (blk_set (o := 0) H0.out (.string ⟨#[]⟩)) (.bool false)) (.slice none 0 0)) d0 (.int .i64 n)) d1 (.int .i64 e0)); simpa using h)
  · exact blk_dw (by have h := (blk_far (o := 0) (blk_set (o := 0) (blk_far (o := 2) (blk_far (o := 1) (blk_far (o := 0) H1.out d2 (.string ⟨#[]⟩)) d2 (.bool false)) d2 (.slice none 0 0)) (.int .i64 n)) k3 (.int .i64 e0)); simpa using h)
  · exact blk_dw (by have h := (blk_set (o := 0) (blk_far (o := 0) (blk_far (o := 2) (blk_far (o := 1) (blk_far (o := 0) H2.out d3 (.string ⟨#[]⟩)) d3 (.bool false)) d3 (.slice none 0 0)) d4 (.int .i64 n)) (.int .i64 e0)); simpa using h)
  · exact Below.drew (bl_set (Nat.le_of_lt k2) (bl_set (Nat.le_of_lt k1) (bl_set (Nat.le_refl _) (bl_set (Nat.le_refl _) (bl_set (Nat.le_refl _) (Below.refl _ _))))))
set_option maxRecDepth 100000 in
theorem ct_ret (n0 g1 g2 : Nat) (w : World) :
    CallsD Tryz.prog 20 #[.pointer (some ⟨n0, 0, none⟩), .pointer (some ⟨g1, 0, none⟩), .pointer (some ⟨g2, 0, none⟩)] .returning w fun e u' w' => e = .returned (.tuple #[]) ∧ u' = .returning ∧ Below w.heap.size w w' := by
  have hta : ∀ W, (Instr.typeAssert .nilIface 20 54 true).run Tryz.prog W = .ok (.tuple #[.agg #[.int .i64 0, .int .i64 0], .bool false]) W := fun W => by kernel_rfl
  refine callsD_of_wpS Tryz.func20 rfl fun c₀ cs hu => ?_
  apply wpS_seq
  apply wpS_region
  simp [wpOpsS, go_sem, recoverD, hu, hta, Tryz.ntmps20, Exit.thenS]
  simp only [Array.replicate_succ, Array.replicate_zero, List.push_toArray, List.append_toArray, List.nil_append, List.cons_append, List.setIfInBounds_toArray, List.set_cons_succ, List.set_cons_zero]
  have hal := al1 w (.cells #[.int .i64 0, .int .i64 0] 54)
  have hc : ({ c₀ with mode := .returning } : Frame) = c₀ := by rw [← hu]
  refine wpS_of_wp ?_
  go_wp2
  exact ⟨rfl, .returning, by rw [hc], .tuple #[], results_none rfl _ _ _, rfl, rfl, hal⟩
/-- What the closure leaves in the three results. -/
def caQ (n0 g1 g2 : Nat) (n e0 : Int) (w1 : World) : Exit → Act → World → Prop
  | .normal, a, w' => a.defers = [] ∧ blk w' n0 35 #[.slice none 0 0] ∧ blk w' g1 3 #[.int .i64 n] ∧ blk w' g2 26 #[.int .i64 e0] ∧ Below n0 w1 w'
  | _, _, _ => False
set_option maxRecDepth 100000 in
set_option maxHeartbeats 1600000 in
theorem ca_pan (n0 : Nat) (n e0 : Int) (a d e : Value) (w : World) (h0 : Hid (blk w n0 35 #[a])) (h1 : Hid (blk w (n0 + 1) 3 #[d])) (h2 : Hid (blk w (n0 + 2) 26 #[e])) :
    CallsD Tryz.prog 26 #[.pointer (some ⟨n0, 0, none⟩), .pointer (some ⟨n0 + 1, 0, none⟩), .pointer (some ⟨n0 + 2, 0, none⟩)] (.panicking (pan n e0)) w fun e u' w' =>
      e = .returned (.tuple #[]) ∧ (∃ q, u' = .panicking [{ v := q, recovered := true }]) ∧ blk w' n0 35 #[.slice none 0 0] ∧ blk w' (n0 + 1) 3 #[.int .i64 n] ∧ blk w' (n0 + 2) 26 #[.int .i64 e0] ∧ Below n0 w w' := by
  have hta : ∀ W, (Instr.typeAssert (.iface 54 (.agg #[.int .i64 n, .int .i64 e0])) 20 54 true).run Tryz.prog W = .ok (.tuple #[.agg #[.int .i64 n, .int .i64 e0], .bool true]) W := fun W => by kernel_rfl
  refine callsD_of_wpS Tryz.func26 rfl fun c₀ cs hu => ?_
  apply wpS_seq
  apply wpS_region
  simp [wpOpsS, go_sem, recoverD, hu, pan, hta, Tryz.ntmps26, Exit.thenS]
  simp only [Array.replicate_succ, Array.replicate_zero, List.push_toArray, List.append_toArray, List.nil_append, List.cons_append, List.setIfInBounds_toArray, List.set_cons_succ, List.set_cons_zero]
  have hz := blk_lt h2.out
  have hf0 : n0 ≠ w.heap.size := by omega
  have hf1 : n0 + 1 ≠ w.heap.size := by omega
  have hf2 : n0 + 2 ≠ w.heap.size := by omega
  have hal := al1 w (.cells #[.int .i64 n, .int .i64 e0] 54)
  have hkf := blk_new w #[.int .i64 n, .int .i64 e0] 54
  have H0 := Lib.hid ((Pk.below (R := w.heap.size) hal).blk hf0 h0.out)
  have H1 := Lib.hid ((Pk.below (R := w.heap.size) hal).blk hf1 h1.out)
  have H2 := Lib.hid ((Pk.below (R := w.heap.size) hal).blk hf2 h2.out)
  have HB : Hid (Below n0 w (w.alloc (.cells #[.int .i64 n, .int .i64 e0] 54))) := Lib.hid (hal.mono (by omega))
  have z0 : (w.alloc (.cells #[.int .i64 n, .int .i64 e0] 54)).cell? ⟨n0, 0, none⟩ = some a := by rw [blk_cell H0.out]; rfl
  have y0 : (w.alloc (.cells #[.int .i64 n, .int .i64 e0] 54)).frozen? ⟨n0, 0, none⟩ = false := blk_free H0.out
  have c1 : (w.alloc (.cells #[.int .i64 n, .int .i64 e0] 54)).cell? ⟨n0 + 1, 0, none⟩ = some d := by rw [blk_cell H1.out]; rfl
  have c2 : (w.alloc (.cells #[.int .i64 n, .int .i64 e0] 54)).cell? ⟨n0 + 2, 0, none⟩ = some e := by rw [blk_cell H2.out]; rfl
  have g1 : (w.alloc (.cells #[.int .i64 n, .int .i64 e0] 54)).frozen? ⟨n0 + 1, 0, none⟩ = false := blk_free H1.out
  have g2 : (w.alloc (.cells #[.int .i64 n, .int .i64 e0] 54)).frozen? ⟨n0 + 2, 0, none⟩ = false := blk_free H2.out
  have p0 : (w.alloc (.cells #[.int .i64 n, .int .i64 e0] 54)).cell? ⟨w.heap.size, 0, none⟩ = some (.int .i64 n) := by rw [blk_cell hkf]; rfl
  have p1 : (w.alloc (.cells #[.int .i64 n, .int .i64 e0] 54)).cell? ⟨w.heap.size, 1, none⟩ = some (.int .i64 e0) := by rw [blk_cell hkf]; rfl
  clear hal hkf h0 h1 h2
  refine wpS_of_wp ?_
  go_wp2_with fail
  refine Code.wp_mono (Q := caQ n0 (n0 + 1) (n0 + 2) n e0 (w.alloc (.cells #[.int .i64 n, .int .i64 e0] 54))) ?_ ?_
  · intro ex act w' hq
    cases ex with
    | normal =>
      obtain ⟨q0, q1, q2, q3, q4⟩ := hq
      refine ⟨q0, _, rfl, .tuple #[], results_none rfl _ _ _, rfl, ⟨_, rfl⟩, q1, q2, q3, ?_⟩
      exact HB.out.trans q4
    | _ => exact False.elim hq
  clear hta hu HB
  have k1 : n0 < n0 + 1 := by omega
  have k2 : n0 < n0 + 2 := by omega
  have k3 : n0 + 1 ≠ n0 + 2 := by omega
  clear hz
  generalize w.alloc (.cells #[.int .i64 n, .int .i64 e0] 54) = w1 at H0 H1 H2 z0 y0 c1 c2 g1 g2 p0 p1 ⊢
  generalize w.heap.size = F at hf0 hf1 hf2 p0 p1 ⊢
  generalize n0 + 1 = G1 at k1 k3 hf1 H1 c1 g1 ⊢
  generalize n0 + 2 = G2 at k2 k3 hf2 H2 c2 g2 ⊢
  have d0 : n0 ≠ G1 := by omega
  have d1 : n0 ≠ G2 := by omega
  have d2 : G1 ≠ n0 := by omega
  have d3 : G2 ≠ n0 := by omega
  have d4 : G2 ≠ G1 := by omega
  have f0 : F ≠ n0 := by omega
  have f1 : F ≠ G1 := by omega
  have f2 : F ≠ G2 := by omega
  go_region_held3 (fun w' => w'.cell? ⟨F, 0, none⟩ = some (.int .i64 n) ∧ w'.cell? ⟨F, 1, none⟩ = some (.int .i64 e0))
    (exact ⟨by repeat (first | with_reducible assumption | with_reducible refine cell_far ?_ f0 | with_reducible refine cell_far ?_ f1 | with_reducible refine cell_far ?_ f2 | with_reducible refine cell_dw ?_), by repeat (first | with_reducible assumption | with_reducible refine cell_far ?_ f0 | with_reducible refine cell_far ?_ f1 | with_reducible refine cell_far ?_ f2 | with_reducible refine cell_dw ?_)⟩) (fail)
  refine ⟨rfl, ?_, ?_, ?_, ?_⟩
  · exact blk_dw (by have h := (blk_far (o := 0) (blk_far (o := 0) (blk_set (o := 0) H0.out (.slice none 0 0)) d0 (.int .i64 n)) d1 (.int .i64 e0)); simpa using h)
  · exact blk_dw (by have h := (blk_far (o := 0) (blk_set (o := 0) (blk_far (o := 0) H1.out d2 (.slice none 0 0)) (.int .i64 n)) k3 (.int .i64 e0)); simpa using h)
  · exact blk_dw (by have h := (blk_set (o := 0) (blk_far (o := 0) (blk_far (o := 0) H2.out d3 (.slice none 0 0)) d4 (.int .i64 n)) (.int .i64 e0)); simpa using h)
  · exact Below.drew (bl_set (Nat.le_of_lt k2) (bl_set (Nat.le_of_lt k1) (bl_set (Nat.le_refl _) (Below.refl _ _))))
set_option maxRecDepth 100000 in
theorem ca_ret (n0 g1 g2 : Nat) (w : World) :
    CallsD Tryz.prog 26 #[.pointer (some ⟨n0, 0, none⟩), .pointer (some ⟨g1, 0, none⟩), .pointer (some ⟨g2, 0, none⟩)] .returning w fun e u' w' => e = .returned (.tuple #[]) ∧ u' = .returning ∧ Below w.heap.size w w' := by
  have hta : ∀ W, (Instr.typeAssert .nilIface 20 54 true).run Tryz.prog W = .ok (.tuple #[.agg #[.int .i64 0, .int .i64 0], .bool false]) W := fun W => by kernel_rfl
  refine callsD_of_wpS Tryz.func26 rfl fun c₀ cs hu => ?_
  apply wpS_seq
  apply wpS_region
  simp [wpOpsS, go_sem, recoverD, hu, hta, Tryz.ntmps26, Exit.thenS]
  simp only [Array.replicate_succ, Array.replicate_zero, List.push_toArray, List.append_toArray, List.nil_append, List.cons_append, List.setIfInBounds_toArray, List.set_cons_succ, List.set_cons_zero]
  have hal := al1 w (.cells #[.int .i64 0, .int .i64 0] 54)
  have hc : ({ c₀ with mode := .returning } : Frame) = c₀ := by rw [← hu]
  refine wpS_of_wp ?_
  go_wp2
  exact ⟨rfl, .returning, by rw [hc], .tuple #[], results_none rfl _ _ _, rfl, rfl, hal⟩
end Go.Proofs.YtgccheiemnpaoaaGreatDoor.par
