/-
  What hasForm of the landed tree returns: whether a statement uses only the fields of its kind. Condition: the statement lies in memory.
  What Equal of the reference of layer 7 returns. Condition: trees in memory.
  What IsName of the landed lexer returns, for a program that calls nothing else of the lexer. Condition: the text's length.
  The library's slices.Equal, slices.ContainsFunc and slices.Clone at the structs of a tree. Conditions: slices in memory; lengths where a copy is made.
  What hasNames, attrsError and statementError of the landed tree return. Condition: a statement in memory.
-/
import Derived.Test.YtcdoicgbjoikkaaGreatDoorMtb
import Derived.Test.YtcdoicgbjoikkaaGreatDoorMte
import Derived.Test.YtcdoicgbjoikkaaGreatDoorMaa
import Derived.Test.YtcdoicgbjoikkaaGreatDoorMae
import Derived.Test.YtcdoicgbjoikkaaGreatDoorShelf
import Derived.Test.YtcdoicgbjoikkaaGreatDoorChecked
import Derived.Test.YtcdoicgbjoikkaaGreatDoorMxa
import Derived.Test.YtcdoicgbjoikkaaGreatDoorMah
import Derived.Test.YtcdoicgbjoikkaaGreatDoorLexNum
import Derived.Shelf.SlicesE.Clone
import Derived.Shelf.SlicesQ.Equal
import Derived.Shelf.SlicesQ.IndexFunc
import Derived.Test.YtcdoicgbjoikkaaGreatDoorMtc
namespace Go.Proofs.YtcdoicgbjoikkaaGreatDoor.tre
open Go.RowKit lex

set_option maxRecDepth 100000 in
set_option maxHeartbeats 8000000 in
theorem form_of (s : St) (A : Addr) (R : Bool) (w : World) (h : Hid (stAt w s A)) (hR : Hid (decide (fldE s = 0) = R)) :
    Calls Tryz.prog 93 #[.pointer (some A)] w fun e w' => e = .returned (.bool R) ∧ w = w' := by
  obtain ⟨c0, c1, _, ⟨rv, c2, hrv⟩, ⟨av, c3, hav⟩, bv, c4, hbv⟩ := (stAt_eq _ _ _).1 h.out
  obtain ⟨k, n, r, a, b⟩ := s
  clear h
  simp only [St.kind, St.name, St.refs, St.attrs, St.body] at c0 c1 hrv hav hbv
  obtain ⟨E, hE⟩ : ∃ E, fldE (.mk k n r a b) = E := ⟨_, rfl⟩
  have hRE : Hid (decide (E = 0) = R) := Lib.hid (by rw [← hE]; exact hR.out)
  have hR2 : (if k < 1 ∨ 5 < k then (1 : Int) else if (k = 2 ∧ n ≠ []) ∨ (k ≠ 2 ∧ 0 < r.length) ∨ (k = 5 ∧ 0 < a.length) ∨ (k ≠ 5 ∧ 0 < b.length) then 1 else if (k = 3 ∧ n ≠ wNode ∧ n ≠ wEdge) ∨ (k = 2 ∧ r.length < 2) then 1 else if k = 4 ∧ (a.length ≠ 1 ∨ (a.head?.map (·.1)) ≠ some []) then 1 else 0) = E := hE
  clear hR hE
  obtain ⟨ro, rc, rfl, _, _, _⟩ := hrv
  obtain ⟨bo, bc, rfl, _, _, _⟩ := hbv
  obtain ⟨so, sc, rfl, _, _, hcell⟩ := hav
  have HC := Lib.hid hcell
  clear hcell
  obtain ⟨rn, hrn⟩ : ∃ q, r.length = q := ⟨_, rfl⟩
  obtain ⟨bn, hbn⟩ : ∃ q, b.length = q := ⟨_, rfl⟩
  rw [hrn] at c2 hR2
  rw [hbn] at c4 hR2
  clear hrn hbn
  obtain ⟨X, hX⟩ : ∃ X, bb n = X := ⟨_, rfl⟩
  have hXn : X.toList = n := by rw [← hX, ByteArray.toList_eq]
  have e0 : X.toList.isEmpty = decide (n = []) := by rw [hXn]; cases n <;> rfl
  have e0' : (X.toList == []) = decide (n = []) := by rw [hXn]; cases n <;> rfl
  have e1 : (X.toList == [110, 111, 100, 101]) = decide (n = wNode) := by rw [hXn, Bool.eq_iff_iff, beq_iff_eq, decide_eq_true_eq]; rfl
  have e2 : (X.toList == [101, 100, 103, 101]) = decide (n = wEdge) := by rw [hXn, Bool.eq_iff_iff, beq_iff_eq, decide_eq_true_eq]; rfl
  rw [hX] at c1
  clear hX hXn
  have q1 : decide ((2 : Int) ≤ (rn : Int)) = decide (2 ≤ rn) := by rw [Bool.eq_iff_iff, decide_eq_true_eq, decide_eq_true_eq]; omega
  have HR := Lib.hid hR2
  clear hR2
  by_cases hk : k = 1 ∨ k = 2 ∨ k = 3 ∨ k = 4 ∨ k = 5
  · rcases hk with rfl | rfl | rfl | rfl | rfl
    ·
      by_cases t_rn : rn = 0
      · subst t_rn
        by_cases t_bn : bn = 0
        · subst t_bn
          obtain rfl : true = R := by rw [← hRE.out, ← HR.out]; simp []
          clear HR HC hRE
          go_enter Tryz.func93, Tryz.ntmps93
          go_wp2
          go_ret
          exact ⟨rfl, rfl⟩
        · have v_bn : ((bn : Int) == 0) = false := by simp [t_bn]
          have u_bn : (bn == 0) = false := by simp [t_bn]
          have p_bn : 0 < bn := by omega
          obtain rfl : false = R := by rw [← hRE.out, ← HR.out]; simp [p_bn]
          clear HR HC hRE
          go_enter Tryz.func93, Tryz.ntmps93
          go_wp2
          go_ret
          exact ⟨rfl, rfl⟩
      · have v_rn : ((rn : Int) == 0) = false := by simp [t_rn]
        have u_rn : (rn == 0) = false := by simp [t_rn]
        have p_rn : 0 < rn := by omega
        obtain rfl : false = R := by rw [← hRE.out, ← HR.out]; simp [p_rn]
        clear HR HC hRE
        go_enter Tryz.func93, Tryz.ntmps93
        go_wp2
        go_ret
        exact ⟨rfl, rfl⟩
    ·
      by_cases t_e : n = []
      · rw [decide_eq_true t_e] at e0 e0'
        by_cases t_g : 2 ≤ rn
        · rw [decide_eq_true t_g] at q1
          have n_g : ¬ rn < 2 := by omega
          have i_g : (2 : Int) ≤ (rn : Int) := by omega
          by_cases t_bn : bn = 0
          · subst t_bn
            obtain rfl : true = R := by rw [← hRE.out, ← HR.out]; simp [t_e, n_g]
            clear HR HC hRE
            go_enter Tryz.func93, Tryz.ntmps93
            go_wp2
            go_ret
            exact ⟨rfl, rfl⟩
          · have v_bn : ((bn : Int) == 0) = false := by simp [t_bn]
            have u_bn : (bn == 0) = false := by simp [t_bn]
            have p_bn : 0 < bn := by omega
            obtain rfl : false = R := by rw [← hRE.out, ← HR.out]; simp [t_e, p_bn]
            clear HR HC hRE
            go_enter Tryz.func93, Tryz.ntmps93
            go_wp2
            go_ret
            exact ⟨rfl, rfl⟩
        · rw [decide_eq_false t_g] at q1
          have n_g : rn < 2 := by omega
          obtain rfl : false = R := by rw [← hRE.out, ← HR.out]; simp [t_e, n_g]
          clear HR HC hRE
          go_enter Tryz.func93, Tryz.ntmps93
          go_wp2
          go_ret
          exact ⟨rfl, rfl⟩
      · rw [decide_eq_false t_e] at e0 e0'
        obtain rfl : false = R := by rw [← hRE.out, ← HR.out]; simp [t_e]
        clear HR HC hRE
        go_enter Tryz.func93, Tryz.ntmps93
        go_wp2
        go_ret
        exact ⟨rfl, rfl⟩
    ·
      by_cases t_n : n = wNode
      · rw [decide_eq_true t_n] at e1
        by_cases t_rn : rn = 0
        · subst t_rn
          by_cases t_bn : bn = 0
          · subst t_bn
            obtain rfl : true = R := by rw [← hRE.out, ← HR.out]; simp [t_n]
            clear HR HC hRE
            go_enter Tryz.func93, Tryz.ntmps93
            go_wp2
            go_ret
            exact ⟨rfl, rfl⟩
          · have v_bn : ((bn : Int) == 0) = false := by simp [t_bn]
            have u_bn : (bn == 0) = false := by simp [t_bn]
            have p_bn : 0 < bn := by omega
            obtain rfl : false = R := by rw [← hRE.out, ← HR.out]; simp [t_n, p_bn]
            clear HR HC hRE
            go_enter Tryz.func93, Tryz.ntmps93
            go_wp2
            go_ret
            exact ⟨rfl, rfl⟩
        · have v_rn : ((rn : Int) == 0) = false := by simp [t_rn]
          have u_rn : (rn == 0) = false := by simp [t_rn]
          have p_rn : 0 < rn := by omega
          obtain rfl : false = R := by rw [← hRE.out, ← HR.out]; simp [t_n, p_rn]
          clear HR HC hRE
          go_enter Tryz.func93, Tryz.ntmps93
          go_wp2
          go_ret
          exact ⟨rfl, rfl⟩
      · rw [decide_eq_false t_n] at e1
        by_cases t_d : n = wEdge
        · rw [decide_eq_true t_d] at e2
          by_cases t_rn : rn = 0
          · subst t_rn
            by_cases t_bn : bn = 0
            · subst t_bn
              obtain rfl : true = R := by rw [← hRE.out, ← HR.out]; simp [t_d, wNode, wEdge]
              clear HR HC hRE
              go_enter Tryz.func93, Tryz.ntmps93
              go_wp2
              go_ret
              exact ⟨rfl, rfl⟩
            · have v_bn : ((bn : Int) == 0) = false := by simp [t_bn]
              have u_bn : (bn == 0) = false := by simp [t_bn]
              have p_bn : 0 < bn := by omega
              obtain rfl : false = R := by rw [← hRE.out, ← HR.out]; simp [t_d, wEdge, p_bn]
              clear HR HC hRE
              go_enter Tryz.func93, Tryz.ntmps93
              go_wp2
              go_ret
              exact ⟨rfl, rfl⟩
          · have v_rn : ((rn : Int) == 0) = false := by simp [t_rn]
            have u_rn : (rn == 0) = false := by simp [t_rn]
            have p_rn : 0 < rn := by omega
            obtain rfl : false = R := by rw [← hRE.out, ← HR.out]; simp [t_d, wEdge, p_rn]
            clear HR HC hRE
            go_enter Tryz.func93, Tryz.ntmps93
            go_wp2
            go_ret
            exact ⟨rfl, rfl⟩
        · rw [decide_eq_false t_d] at e2
          obtain rfl : false = R := by rw [← hRE.out, ← HR.out]; simp [t_n, t_d]
          clear HR HC hRE
          go_enter Tryz.func93, Tryz.ntmps93
          go_wp2
          go_ret
          exact ⟨rfl, rfl⟩
    ·
      by_cases t_rn : rn = 0
      · subst t_rn
        rcases a with _ | ⟨x, _ | ⟨y, t⟩⟩
        ·
          obtain rfl : false = R := by rw [← hRE.out, ← HR.out]; simp []
          clear HR HC hRE
          go_enter Tryz.func93, Tryz.ntmps93
          go_wp2
          go_ret
          exact ⟨rfl, rfl⟩
        ·
          obtain ⟨B, rfl, hB⟩ := HC.out (by simp)
          obtain ⟨p0, _⟩ := hB 0 (by simp)
          rw [show B.add (0 * 2) = B by rw [Nat.zero_mul]; unfold Addr.add; rw [if_pos rfl]] at p0
          simp only [List.getElem_cons_zero] at p0
          obtain ⟨Y, hY⟩ : ∃ Y, bb x.1 = Y := ⟨_, rfl⟩
          have hYn : Y.toList = x.1 := by rw [← hY, ByteArray.toList_eq]
          have y0 : Y.toList.isEmpty = decide (x.1 = []) := by rw [hYn]; cases x.1 <;> rfl
          have y1 : (Y.toList == []) = decide (x.1 = []) := by rw [hYn]; cases x.1 <;> rfl
          rw [hY] at p0
          clear hY hYn hB
          by_cases t_k : x.1 = []
          · rw [decide_eq_true t_k] at y0 y1
            by_cases t_bn : bn = 0
            · subst t_bn
              obtain rfl : true = R := by rw [← hRE.out, ← HR.out]; simp [t_k]
              clear HR HC hRE
              go_enter Tryz.func93, Tryz.ntmps93
              go_wp2
              go_ret
              exact ⟨rfl, rfl⟩
            · have v_bn : ((bn : Int) == 0) = false := by simp [t_bn]
              have u_bn : (bn == 0) = false := by simp [t_bn]
              have p_bn : 0 < bn := by omega
              obtain rfl : false = R := by rw [← hRE.out, ← HR.out]; simp [p_bn]
              clear HR HC hRE
              go_enter Tryz.func93, Tryz.ntmps93
              go_wp2
              go_ret
              exact ⟨rfl, rfl⟩
          · rw [decide_eq_false t_k] at y0 y1
            obtain rfl : false = R := by rw [← hRE.out, ← HR.out]; simp [t_k]
            clear HR HC hRE
            go_enter Tryz.func93, Tryz.ntmps93
            go_wp2
            go_ret
            exact ⟨rfl, rfl⟩
        ·
          have v_a : (((x :: y :: t).length : Int) == 1) = false := by rw [beq_eq_false_iff_ne, List.length_cons, List.length_cons]; omega
          obtain ⟨an, han⟩ : ∃ q, (x :: y :: t).length = q := ⟨_, rfl⟩
          have w_a : an ≠ 1 := by rw [← han, List.length_cons, List.length_cons]; omega
          have HR2 := HR.out; clear HR
          rw [han] at c3 v_a HR2
          have HR := Lib.hid HR2; clear HR2 han
          have u_a : (an == 1) = false := by simp [w_a]
          obtain rfl : false = R := by rw [← hRE.out, ← HR.out]; simp [w_a]
          clear HR HC hRE
          go_enter Tryz.func93, Tryz.ntmps93
          go_wp2
          go_ret
          exact ⟨rfl, rfl⟩
      · have v_rn : ((rn : Int) == 0) = false := by simp [t_rn]
        have u_rn : (rn == 0) = false := by simp [t_rn]
        have p_rn : 0 < rn := by omega
        obtain rfl : false = R := by rw [← hRE.out, ← HR.out]; simp [p_rn]
        clear HR HC hRE
        go_enter Tryz.func93, Tryz.ntmps93
        go_wp2
        go_ret
        exact ⟨rfl, rfl⟩
    ·
      by_cases t_rn : rn = 0
      · subst t_rn
        rcases a with _ | ⟨x, t⟩
        ·
          obtain rfl : true = R := by rw [← hRE.out, ← HR.out]; simp []
          clear HR HC hRE
          go_enter Tryz.func93, Tryz.ntmps93
          go_wp2
          go_ret
          exact ⟨rfl, rfl⟩
        ·
          obtain ⟨an, han⟩ : ∃ q, (x :: t).length = q := ⟨_, rfl⟩
          have w_a : an ≠ 0 := by rw [← han, List.length_cons]; omega
          have p_a : 0 < an := by omega
          have HR2 := HR.out; clear HR
          rw [han] at c3 HR2
          have HR := Lib.hid HR2; clear HR2 han
          have v_a : ((an : Int) == 0) = false := by simp [w_a]
          have u_a : (an == 0) = false := by simp [w_a]
          obtain rfl : false = R := by rw [← hRE.out, ← HR.out]; simp [p_a]
          clear HR HC hRE
          go_enter Tryz.func93, Tryz.ntmps93
          go_wp2
          go_ret
          exact ⟨rfl, rfl⟩
      · have v_rn : ((rn : Int) == 0) = false := by simp [t_rn]
        have u_rn : (rn == 0) = false := by simp [t_rn]
        have p_rn : 0 < rn := by omega
        obtain rfl : false = R := by rw [← hRE.out, ← HR.out]; simp [p_rn]
        clear HR HC hRE
        go_enter Tryz.func93, Tryz.ntmps93
        go_wp2
        go_ret
        exact ⟨rfl, rfl⟩
  · have k1 : (k == 1) = false := by rw [beq_eq_false_iff_ne]; omega
    have k2 : (k == 2) = false := by rw [beq_eq_false_iff_ne]; omega
    have k3 : (k == 3) = false := by rw [beq_eq_false_iff_ne]; omega
    have k4 : (k == 4) = false := by rw [beq_eq_false_iff_ne]; omega
    have k5 : (k == 5) = false := by rw [beq_eq_false_iff_ne]; omega
    obtain rfl : false = R := by rw [← hRE.out, ← HR.out, eq_comm, decide_eq_false_iff_not, if_pos (by omega)]; decide
    clear HR HC hk hRE
    go_enter Tryz.func93, Tryz.ntmps93
    go_wp2
    go_ret
    exact ⟨rfl, rfl⟩
end Go.Proofs.YtcdoicgbjoikkaaGreatDoor.tre
namespace Go.Proofs.YtcdoicgbjoikkaaGreatDoor.tre
open Go.RowKit lex

end Go.Proofs.YtcdoicgbjoikkaaGreatDoor.tre
namespace Go.Proofs.YtcdoicgbjoikkaaGreatDoor










end Go.Proofs.YtcdoicgbjoikkaaGreatDoor
namespace Go.Proofs.YtcdoicgbjoikkaaGreatDoor.tre
open Go.RowKit Go.Shelf lex

theorem spot_none {w : World} {A : Addr} {v : Value} (h : w.cell? A = some v) : A = ⟨A.block, A.off, none⟩ := by
  obtain ⟨b, o, s⟩ := A
  cases s with
  | none => rfl
  | some x => unfold World.cell? at h; simp only at h; split at h <;> simp at h
abbrev prC (r : Pr) : List Value := [.string (bb r.1), .string (bb r.2)]
theorem add_at (b o j : Nat) : (⟨b, o, none⟩ : Addr).add j = ⟨b, o + j, none⟩ := by
  unfold Addr.add; split
  · subst_vars; rfl
  · rfl
theorem Prs.at {w : World} {ao : Option Addr} {n cap : Nat} {l : List Pr} (h : Prs w (.slice ao n cap) l) (hl : 0 < l.length) :
    n = l.length ∧ ∃ b o, ao = some ⟨b, o, none⟩ ∧ b < w.heap.size ∧ ∀ j, j < l.length → ∀ i v, (prC l[j]!)[i]? = some v → w.cell? ⟨b, o + j * 2 + i, none⟩ = some v := by
  obtain ⟨ao', cap', e, _, _, hA⟩ := h
  cases e
  obtain ⟨A, rfl, h2⟩ := hA hl
  have h0 := (h2 0 hl).1
  rw [Nat.zero_mul, show A.add 0 = A by unfold Addr.add; rw [if_pos rfl]] at h0
  have hs := spot_none h0
  obtain ⟨b, o, q⟩ := A
  simp only [Addr.mk.injEq, true_and] at hs
  subst hs
  refine ⟨rfl, b, o, rfl, World.block_lt_of_cell? w _ h0, fun j hj i v hv => ?_⟩
  obtain ⟨p0, p1, _⟩ := h2 j hj
  rw [add_at] at p0 p1
  rw [getElem!_pos l j hj] at hv
  match i, hv with
  | 0, hv => obtain rfl := Option.some.inj hv; exact p0
  | 1, hv => obtain rfl := Option.some.inj hv; exact p1
  | (i + 2), hv => simp at hv
def lays_cf_ren : Go.Shelf.Ren := ⟨fun | 6 => 154 | 8 => 132 | n => n, fun | 0 => 0 | 3 => 3 | 4 => 4 | 22 => 54 | 25 => 175 | 23 => 82 | n => n, fun | n => n⟩
theorem lays_cf : Go.Proofs.SlLaysH0.n8 Tryz.prog lays_cf_ren := {
  mixed := by kernel_rfl
  f6 := ⟨Tryz.f154.name, by decide, Tryz.func154.trans (congrArg some (by kernel_rfl))⟩
  f8 := ⟨Tryz.f132.name, by decide, Tryz.func132.trans (congrArg some (by kernel_rfl))⟩
  t0 := Tryz.underlying0
  a0 := Tryz.isAgg0
  z0 := Tryz.sizeOf0
  v0 := Tryz.zeroValue0
  t3 := Tryz.underlying3
  a3 := Tryz.isAgg3
  z3 := Tryz.sizeOf3
  v3 := Tryz.zeroValue3
  t4 := Tryz.underlying4
  a4 := Tryz.isAgg4
  z4 := Tryz.sizeOf4
  v4 := Tryz.zeroValue4
  t22 := Tryz.underlying54
  a22 := Tryz.isAgg54
  z22 := Tryz.sizeOf54
  v22 := Tryz.zeroValue54
  t25 := Tryz.underlying175
  a25 := Tryz.isAgg175
  z25 := Tryz.sizeOf175
  v25 := Tryz.zeroValue175 }
/-- slices.ContainsFunc over the first attributes. -/
theorem cfa_of (p : Pr → Bool) (g : Nat) (lb : Array Value) (eg : ∀ args w, (callFunc g args).run Tryz.prog w = .ok (.enter g args) w) (ao : Option Addr) (n0 k cap cap0 : Nat) (l : List Pr) (R : Bool) (w : World)
    (hp : Hid (PredBelow Tryz.prog g lb (fun x => .agg (prC x).toArray) p w)) (h : Hid (Prs w (.slice ao n0 cap0) l)) (hk : k ≤ l.length) (h0 : 0 < l.length) (hR : Hid ((l.take k).any p = R)) :
    Calls Tryz.prog 132 #[.slice ao k cap, .func (.func g) #[] lb] w fun e w' => e = .returned (.bool R) ∧ Below w.heap.size w w' := by
  obtain ⟨_, cap', e, hc, hm, _⟩ := id h.out
  cases e
  unfold maxLen at hm
  obtain ⟨_, b, o, rfl, hb, hcl⟩ := h.out.at h0
  have := AnyQ.slices_ContainsFunc lays_cf 2 Tryz.isAgg82 Tryz.sizeOf82 prC (fun _ => rfl) p g lb eg b o k cap l w hp.out hk (by omega) hb hcl
  rw [hR.out] at this
  exact this
end Go.Proofs.YtcdoicgbjoikkaaGreatDoor.tre
namespace Go.Proofs.YtcdoicgbjoikkaaGreatDoor.tre
open Go.RowKit Go.Shelf lex

/-! ### Printable text -/
def npN (x : Nat) : Bool := !plN x
theorem pl_by : ByBytes plN isPl := ⟨fun b _ => rfl, false, fun r h => by simp [plN]; omega, fun b h => by simp [isPl]; omega⟩
theorem idx_not (s : ByteArray) : ∀ (f pos : Nat), Lib.idxFuncFrom npN true s f pos = Lib.idxFuncFrom plN false s f pos := by
  intro f
  induction f with
  | zero => intro pos; rfl
  | succ f ih =>
    intro pos
    unfold Lib.idxFuncFrom
    rw [ih]
    cases h : plN (Utf8.decode s pos).1 <;> simp [npN, h]
theorem tw_all (q : UInt8 → Bool) (l : List UInt8) : (l.takeWhile q).length = l.length ↔ l.all q = true := by
  induction l with
  | nil => simp
  | cons a t ih =>
    rw [List.takeWhile_cons, List.all_cons]
    cases h : q a
    · simp
    · simp only [if_true, List.length_cons, Bool.true_and]
      exact ⟨fun e => ih.1 (by omega), fun e => by have := ih.2 e; omega⟩
theorem np_idx (s : ByteArray) : decide (0 ≤ Lib.idxFunc npN true s) = !(s.data.toList.all isPl) := by
  have h := idx_from pl_by s s.size 0 (by omega) (Nat.zero_le _)
  unfold Lib.idxFunc
  rw [idx_not, h, List.drop_zero]
  have hw := tw_all isPl s.data.toList
  rw [b_size] at hw
  by_cases ha : s.data.toList.all isPl = true
  · rw [if_pos (by have := hw.2 ha; omega), ha]; rfl
  · rw [if_neg (by intro e; exact ha (hw.1 (by omega)))]
    simp only [Bool.not_eq_true] at ha
    rw [ha, decide_eq_true (by omega)]; rfl
theorem notpl_any (x : Nat) (w : World) : Calls Tryz.prog 134 #[.int .i32 (x : Int)] w fun e w' => e = .returned (.bool (npN x)) ∧ w = w' := by
  go_enter Tryz.func134, Tryz.ntmps134
  go_wp2
  all_goals go_ret
  all_goals refine ⟨ret_bool ?_, rfl⟩
  all_goals (unfold npN plN; rw [Bool.eq_iff_iff]; simp; omega)
theorem notpl_of (s : ByteArray) (r : Bool) (w : World) (hr : Hid (s.data.toList.all isPl = r)) :
    Calls Tryz.prog 133 #[.string s, .func (.func 134) #[] #[]] w fun e w' => e = .returned (.bool (!r)) ∧ Below w.heap.size w w' := by
  have := Tryz.strings_ContainsFunc_runes 134 #[] (enters_of Tryz.func134 (by kernel_rfl) rfl) npN s w (runes_of notpl_any w)
  rw [np_idx, hr.out] at this
  exact this

/-! ### Names -/
def namesB (s : St) : Bool := (if s.kind = 1 ∨ s.kind = 4 ∨ s.kind = 5 then isNm s.name else true) && s.refs.all refB
theorem al_ref (w : World) (X Y : ByteArray) : Below w.heap.size w (w.alloc (.cells #[.string X, .string Y] 58)) := al1 _ _
set_option maxRecDepth 100000 in
set_option maxHeartbeats 8000000 in
/-- The loop of hasNames over the refs, and what comes before it. -/
theorem names_ok (s : St) (A : Addr) (R : Bool) (w : World) (h : Hid (stAt w s A)) (hR : Hid (namesB s = R)) :
    Calls Tryz.prog 94 #[.pointer (some A)] w fun e w' => e = .returned (.bool R) ∧ Below w.heap.size w w' := by
  obtain ⟨c0, c1, hnm, ⟨rv, c2, hrv⟩, _⟩ := (stAt_eq _ _ _).1 h.out
  obtain ⟨k, hk⟩ : ∃ k, s.kind = k := ⟨_, rfl⟩
  obtain ⟨r, hr⟩ : ∃ r, s.refs = r := ⟨_, rfl⟩
  obtain ⟨X, hX⟩ : ∃ X, bb s.name = X := ⟨_, rfl⟩
  have hXd : X.data.toList = s.name := by rw [← hX]
  have HZ : Hid (X.size ≤ maxLen) := Lib.hid (by rw [← b_size, hXd]; exact hnm)
  obtain ⟨nm, hnv⟩ : ∃ q, isNm s.name = q := ⟨_, rfl⟩
  have HNM : Hid (isNm X.data.toList = nm) := Lib.hid (by rw [hXd]; exact hnv)
  have hR2 := hR.out
  unfold namesB at hR2
  rw [hk, hr, hnv] at hR2
  rw [hk] at c0
  rw [hX] at c1
  rw [hr] at hrv
  obtain ⟨ro, rc, rfl, _, hrl, _⟩ := id hrv
  unfold maxLen at hrl
  have hrl : r.length ≤ 9223372036854775807 := by omega
  have HRV := Lib.hid hrv
  clear h hR hk hr hX hXd hnm hnv hrv
  have hw : ((k == 1) = true ∨ ((k == 1) = false ∧ (k == 4) = true) ∨ ((k == 1) = false ∧ (k == 4) = false ∧ (k == 5) = true)) ∧ (nm && r.all refB) = R ∨ ((k == 1) = false ∧ (k == 4) = false ∧ (k == 5) = false) ∧ r.all refB = R := by
    by_cases h1 : k = 1
    · exact Or.inl ⟨Or.inl (by simp [h1]), by rw [if_pos (Or.inl h1)] at hR2; exact hR2⟩
    by_cases h4 : k = 4
    · exact Or.inl ⟨Or.inr (Or.inl ⟨by simp [h1], by simp [h4]⟩), by rw [if_pos (Or.inr (Or.inl h4))] at hR2; exact hR2⟩
    by_cases h5 : k = 5
    · exact Or.inl ⟨Or.inr (Or.inr ⟨by simp [h1], by simp [h4], by simp [h5]⟩), by rw [if_pos (Or.inr (Or.inr h5))] at hR2; exact hR2⟩
    · exact Or.inr ⟨⟨by simp [h1], by simp [h4], by simp [h5]⟩, by rw [if_neg (by omega)] at hR2; simpa using hR2⟩
  clear hR2
  have hw2 : (∃ kk : Unit, (k == 1) = true ∧ nm = true ∧ r.all refB = R) ∨ (∃ kk : Unit, ((k == 1) = false ∧ (k == 4) = true) ∧ nm = true ∧ r.all refB = R) ∨ (∃ kk : Unit, ((k == 1) = false ∧ (k == 4) = false ∧ (k == 5) = true) ∧ nm = true ∧ r.all refB = R) ∨ (((k == 1) = true ∨ ((k == 1) = false ∧ (k == 4) = true) ∨ ((k == 1) = false ∧ (k == 4) = false ∧ (k == 5) = true)) ∧ nm = false ∧ R = false) ∨ (((k == 1) = false ∧ (k == 4) = false ∧ (k == 5) = false) ∧ r.all refB = R) := by
    rcases hw with ⟨a, b⟩ | b
    · cases nm
      · exact Or.inr (Or.inr (Or.inr (Or.inl ⟨a, rfl, b.symm⟩)))
      · rcases a with a | a | a
        · exact Or.inl ⟨(), a, rfl, b⟩
        · exact Or.inr (Or.inl ⟨(), a, rfl, b⟩)
        · exact Or.inr (Or.inr (Or.inl ⟨(), a, rfl, b⟩))
    · exact Or.inr (Or.inr (Or.inr (Or.inr b)))
  clear hw
  rcases hw2 with ⟨_, k1, rfl, hall⟩ | ⟨_, ⟨k1, k4⟩, rfl, hall⟩ | ⟨_, ⟨k1, k4, k5⟩, rfl, hall⟩ | ⟨hka, rfl, rfl⟩ | ⟨⟨k1, k4, k5⟩, hall⟩
  case inr.inr.inr.inl =>
    rcases hka with k1 | ⟨k1, k4⟩ | ⟨k1, k4, k5⟩
    all_goals
      go_enter Tryz.func94, Tryz.ntmps94
      go_wp2_with fail
      refine (isname_of _ _ _ HZ.out HNM).mono ?_
      rintro e w2 ⟨rfl, hb2⟩
      go_wp2
      go_ret
      exact ⟨rfl, hb2⟩
  case' inr.inr.inr.inr =>
    have hB2 : Below w.heap.size w w := Below.refl _ _
    have HALL := Lib.hid hall
    clear hall
    go_enter Tryz.func94, Tryz.ntmps94
    go_wp2_with fail
  case' inl =>
    have HALL := Lib.hid hall
    clear hall
    go_enter Tryz.func94, Tryz.ntmps94
    go_wp2_with fail
    refine (isname_of _ _ _ HZ.out HNM).mono ?_
    rintro e w2 ⟨rfl, hB2⟩
    have c2 := cell_later' hB2 c2
    go_wp2_with fail
  case' inr.inl =>
    have HALL := Lib.hid hall
    clear hall
    go_enter Tryz.func94, Tryz.ntmps94
    go_wp2_with fail
    refine (isname_of _ _ _ HZ.out HNM).mono ?_
    rintro e w2 ⟨rfl, hB2⟩
    have c2 := cell_later' hB2 c2
    go_wp2_with fail
  case' inr.inr.inl =>
    have HALL := Lib.hid hall
    clear hall
    go_enter Tryz.func94, Tryz.ntmps94
    go_wp2_with fail
    refine (isname_of _ _ _ HZ.out HNM).mono ?_
    rintro e w2 ⟨rfl, hB2⟩
    have c2 := cell_later' hB2 c2
    go_wp2_with fail
  all_goals
    clear c0 c1 c2 HNM HZ
    go_loopw [24] (fun iv wr => ∃ k : Nat, k ≤ r.length ∧ iv = .int .i64 k ∧ (r.take k).all refB = true ∧ Below w.heap.size w wr) (fun iv _ => r.length - (intOf iv).toNat)
    case atStart => exact ⟨0, Nat.zero_le _, rfl, rfl, hB2⟩
    case round =>
      obtain ⟨k, hk, rfl, hall, hBr⟩ := hrel
      rename World => wr
      have HA := Lib.hid hall
      clear hall hB2
      by_cases hlt : k < r.length
      · obtain ⟨B, rfl, p0, p1, z2, z3⟩ := (HRV.out.keep hBr).get hlt
        obtain ⟨x, hxe⟩ : ∃ x, r[k] = x := ⟨_, rfl⟩
        rw [hxe] at p0 p1 z2 z3
        obtain ⟨X1, hX1⟩ : ∃ Y, bb x.1 = Y := ⟨_, rfl⟩
        obtain ⟨X2, hX2⟩ : ∃ Y, bb x.2 = Y := ⟨_, rfl⟩
        have d1 : X1.data.toList = x.1 := by rw [← hX1]
        have d2 : X2.data.toList = x.2 := by rw [← hX2]
        have HS1 := Lib.hid (show X1.size ≤ maxLen by rw [← b_size, d1]; exact z2)
        have HS2 := Lib.hid (show X2.size ≤ maxLen by rw [← b_size, d2]; exact z3)
        rw [hX1] at p0
        rw [hX2] at p1
        have hBq := below_keep (al_ref wr X1 X2) hBr
        obtain ⟨v0, v1⟩ := at2_str wr X1 X2 58
        obtain ⟨n1, hn1⟩ : ∃ b, isNm x.1 = b := ⟨_, rfl⟩
        obtain ⟨n2, hn2⟩ : ∃ b, isNm x.2 = b := ⟨_, rfl⟩
        obtain ⟨m2, hm2⟩ : ∃ b, x.2.isEmpty = b := ⟨_, rfl⟩
        have HN1 : Hid (isNm X1.data.toList = n1) := Lib.hid (by rw [d1]; exact hn1)
        have HN2 : Hid (isNm X2.data.toList = n2) := Lib.hid (by rw [d2]; exact hn2)
        have he2 : X2.toList.isEmpty = m2 := by rw [ByteArray.toList_eq, d2]; exact hm2
        have HRB : Hid (refB r[k] = (n1 && (m2 || n2))) := Lib.hid (by rw [hxe]; unfold refB; rw [hn1, hn2, hm2])
        have i0 : (0 : Int) ≤ (k : Int) := by omega
        have i1 : (k : Int) < (r.length : Int) := by omega
        clear hX1 hX2 hn1 hn2 hm2 d1 d2 z2 z3 hxe
        go_wp2_with fail
        refine (isname_of _ _ _ HS1.out HN1).mono ?_
        rintro e w3 ⟨rfl, hb3⟩
        have v1 := cell_keep hb3 v1
        have hB3 := below_keep hb3 hBq
        have hw : n1 = false ∨ (n1 = true ∧ m2 = true) ∨ (n1 = true ∧ m2 = false ∧ n2 = true) ∨ (n1 = true ∧ m2 = false ∧ n2 = false) := by cases n1 <;> cases m2 <;> cases n2 <;> simp
        rcases hw with rfl | ⟨rfl, rfl⟩ | ⟨rfl, rfl, rfl⟩ | ⟨rfl, rfl, rfl⟩
        · have HN : Hid (false = R) := Lib.hid (by rw [← HALL.out, all_bad hlt HRB.out])
          obtain rfl := HN.out
          go_wp2
          go_ret
          exact ⟨rfl, hB3⟩
        · have HN := Lib.hid (all_next hlt HA.out HRB.out)
          go_wp2
          go_roundw
          case rel => exact ⟨k + 1, by omega, by go_num, HN.out, hB3⟩
          case measure => simp [intOf]; omega
        · have HN := Lib.hid (all_next hlt HA.out HRB.out)
          go_wp2_with fail
          refine (isname_of _ _ _ HS2.out HN2).mono ?_
          rintro e w4 ⟨rfl, hb4⟩
          go_wp2
          go_roundw
          case rel => exact ⟨k + 1, by omega, by go_num, HN.out, below_keep hb4 hB3⟩
          case measure => simp [intOf]; omega
        · have HN : Hid (false = R) := Lib.hid (by rw [← HALL.out, all_bad hlt HRB.out])
          obtain rfl := HN.out
          go_wp2_with fail
          refine (isname_of _ _ _ HS2.out HN2).mono ?_
          rintro e w4 ⟨rfl, hb4⟩
          go_wp2
          go_ret
          exact ⟨rfl, below_keep hb4 hB3⟩
      · obtain rfl : k = r.length := by omega
        have HN : Hid (true = R) := Lib.hid (by have := HA.out; rw [List.take_length] at this; rw [← HALL.out, this])
        obtain rfl := HN.out
        go_wp2
        go_ret
        exact ⟨rfl, hBr⟩
end Go.Proofs.YtcdoicgbjoikkaaGreatDoor.tre
