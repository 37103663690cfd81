/-
  What Clusters of the reference of layer 7 returns. Condition: a tree of at most 600 statements in memory.
-/
import Derived.Test.YtgnhpjbkbefgpaaTreVal
import Derived.Test.YtgnhpjbkbefgpaaTreNl
namespace Go.Proofs.Ytgnhpjbkbefgpaa.tre
open Go.RowKit lex

/-- A list of names that a call leaves. -/
def NlOut (L : List (List UInt8)) (w : World) (e : Ending) (w' : World) : Prop := ∃ v, e = .returned v ∧ Nl w' v L ∧ Below w.heap.size w w'
theorem info_s1 : (Try.prog.info? 9).map (fun i => (i.zero, i.size, i.bytes)) = some (some (.string ⟨#[]⟩), 1, 16) := by kernel_rfl
theorem info_str1 : ∃ i, Try.prog.info? 9 = some i ∧ i.zero = some (.string ⟨#[]⟩) ∧ i.size = 1 ∧ i.bytes = 16 := by
  have h := info_s1
  cases hq : Try.prog.info? 9 with
  | none => rw [hq] at h; cases h
  | some i =>
    rw [hq] at h
    simp only [Option.map_some, Option.some.injEq, Prod.mk.injEq] at h
    exact ⟨i, rfl, h.1, h.2.1, h.2.2⟩
theorem nmC_snoc (l : List (List UInt8)) (x : List UInt8) : nmC (l ++ [x]) = nmC l ++ [.string (bb x)] := by simp [nmC]
theorem cell1_str (w : World) (v : Value) (t : TypeId) : ∀ j u, [v][j]? = some u → (w.alloc (.cells #[v] t)).cell? ((⟨w.heap.size, 0, none⟩ : Addr).add j) = some u := by
  intro j u hj
  match j, hj with
  | 0, hj => simp at hj; subst hj; simp [Addr.add]
  | (j + 1), hj => simp at hj
/-- One name more, out of a slice of one that was just made. -/
theorem app_name {w : World} {ops : Array Oper} {rest : List Oper} {o : Oper} {a : Act} {Q : Exit → Act → World → Prop} (hg : o.guard = none) (p y : Operand) (ho : o.op = .call { callee := .builtin .append, args := #[p, y], argTypes := #[31, 31] })
    (B : Nat) (v : Value) (l : List (List UInt8)) (x : List UInt8) (hs : a.eval p = v) (hx : a.eval y = .slice (some ⟨w.heap.size, 0, none⟩) 1 1) (h : Hid (Nrow w B v l)) (hl : l.length ≤ 1000000) (hB : B ≤ w.heap.size)
    (hK : ∀ v' w', Nrow w' B v' (l ++ [x]) → w.grownBy w' v.ownBlock → wpList Try.prog ops Q rest (a.put o.dst v') w') : wpList Try.prog ops Q (o :: rest) a (w.alloc (.cells #[.string (bb x)] 9)) := by
  obtain ⟨i0, hi, hz0, hz1, hz2⟩ := info_str1
  refine wpList_append_own _ hg p y 31 ho B 9 i0 (.string ⟨#[]⟩) 1 16 Try.underlying31 hi hz0 hz1 hz2 rfl (by decide) v l.length _ hs (World.ownsRow.alloc h.out _) ⟨w.heap.size, 0, none⟩ 1 1 [.string (bb x)] hx rfl (cell1_str _ _ _) (by simp [Value.oneCell']) (by unfold maxLen; omega) (by omega) (by simp; omega) ?_
  intro v' w' hown hgrow _
  refine hK v' w' ?_ ?_
  · unfold Nrow; rw [nmC_snoc, List.length_append]; exact hown
  · refine ⟨hgrow.os, hgrow.tape, hgrow.output, Nat.le_trans (by simp) hgrow.size, fun k hk hne => ?_⟩
    rw [hgrow.block k (by simp; omega) hne, heap_alloc_old w _ hk]
/-- Rows of two kinds lie in two blocks. -/
theorem own_far {w : World} {B1 B2 s1 s2 n1 n2 : Nat} {e1 e2 : TypeId} {v1 v2 : Value} {xs1 xs2 : List Value} (h1 : w.ownsRow B1 e1 s1 v1 n1 xs1) (h2 : w.ownsRow B2 e2 s2 v2 n2 xs2) (he : e1 ≠ e2) : v1.ownBlock = none ∨ v1.ownBlock ≠ v2.ownBlock := by
  rcases h1.2 with ⟨rfl, _⟩ | ⟨g, _, cur, rfl, _, hg, _⟩
  · exact Or.inl rfl
  · refine Or.inr fun e => ?_
    rcases h2.2 with ⟨rfl, _⟩ | ⟨g2, _, cur2, rfl, _, hg2, _⟩
    · cases e
    · have e3 : g = g2 := Option.some.inj e
      rw [← e3, hg] at hg2
      injection hg2 with hg2
      injection hg2 with _ h5 _
      exact he h5
theorem cluL_len (l : List (St × Int)) : (cluL l).length ≤ l.length := by
  induction l with
  | nil => exact Nat.le_refl _
  | cons x t ih =>
    unfold cluL at *
    rw [List.flatMap_cons, List.length_append, List.length_cons]
    have : (if x.1.kind = 5 then [x.1.name] else []).length ≤ 1 := by split <;> simp
    omega
theorem take_pair {l : List (St × Int)} {k : Nat} (h : k < l.length) : l.take (k + 1) = l.take k ++ [l[k]] := by rw [List.take_add_one, List.getElem?_eq_getElem h]; rfl
theorem cluL_snoc (l : List (St × Int)) (x : St × Int) : cluL (l ++ [x]) = cluL l ++ (if x.1.kind = 5 then [x.1.name] else []) := by unfold cluL; rw [List.flatMap_append]; simp
set_option maxRecDepth 100000 in
set_option maxHeartbeats 8000000 in
theorem rclu_of (v : Value) (T : Tr) (L : List (List UInt8)) (w : World) (hT : Hid (TrV w v T)) (hc : cnt T.body ≤ 600) (hL : Hid (clustersT T = L)) :
    Calls Try.prog 20 #[v] w (NlOut L w) := by
  obtain ⟨bv, rfl, hnl, hs⟩ := id hT.out
  have hr := hL.out
  unfold clustersT at hr
  obtain ⟨E, hE⟩ : ∃ E, validT T = E := ⟨_, rfl⟩
  rw [hE] at hr
  have HE := Lib.hid hE
  obtain ⟨X, hX⟩ : ∃ X, bb T.name = X := ⟨_, rfl⟩
  have HX := Lib.hid hX
  rw [hX] at hT ⊢
  have hB := al1 w (.cells #[.string X, .bool T.dir, bv] 24)
  have h3 := at3_new w X T.dir bv 24
  have hB1 := hB.alloc (by simp) (.cells #[] 9)
  have h31 := at3_keep h3 (al1 (w.alloc (.cells #[.string X, .bool T.dir, bv] 24)) (.cells #[] 9))
  have HO1 : Hid (Nrow ((w.alloc (.cells #[.string X, .bool T.dir, bv] 24)).alloc (.cells #[] 9)) w.heap.size (.slice (some ⟨w.heap.size + 1, 0, none⟩) 0 0) []) := Lib.hid (by
    have := World.ownsRow_lit (base := w.heap.size) (e := 9) (size := 1) (w.alloc (.cells #[.string X, .bool T.dir, bv] 24)) #[] 0 (by simp) (by decide) rfl
    unfold Nrow; simpa [nmC] using this)
  have HT1 := Lib.hid (hT.out.keep hB1)
  have HS1 := Lib.hid (hs.keep hB1)
  clear hT hL hX hs hnl hE h3 hB
  obtain ⟨c0, c1, c2⟩ := id h31
  go_enter Try.func20, Try.ntmps20
  go_wp2_with fail
  refine (rvalid_of _ T E _ HT1 hc HE).mono ?_
  rintro e w2 ⟨rfl, hb2⟩
  have hB2 := below_keep hb2 hB1
  have HO2 : Hid (Nrow w2 w.heap.size (.slice (some ⟨w.heap.size + 1, 0, none⟩) 0 0) []) := Lib.hid (own_keep HO1.out hb2)
  have h32 := at3_keep h31 hb2
  have HS2 := Lib.hid (HS1.out.keep hb2)
  clear HS1 c0 c1 c2 h31 HO1 HT1 hb2 hB1
  by_cases hE0 : E = 0
  · subst hE0
    rw [if_pos rfl] at hr
    have HL := Lib.hid hr
    obtain ⟨c0, c1, c2⟩ := id h32
    clear hr
    go_wp2_with fail
    refine (pre_ok T.body _ _ _ 0 (Below.refl _ _) HS2.out hc (by decide) (by omega)).mono ?_
    rintro e w3 ⟨g, oc, F, rfl, hown, hF, hfv, hb3⟩
    have hFl := fin_len hF
    have hF6 : F.length ≤ 600 := by omega
    have hB3 := below_keep hb3 hB2
    have HO3 : Hid (Nrow w3 w.heap.size (.slice (some ⟨w.heap.size + 1, 0, none⟩) 0 0) []) := Lib.hid (own_keep HO2.out hb3)
    have HF := Lib.hid hF
    have HO := Lib.hid hown
    have HFV : Hid (∀ f ∈ F, fvOk w3 f) := Lib.hid (fun f hf => (hfv f hf).keep hb3)
    clear hown hF hfv hb3 HO2 hB2 h32 c0 c1 c2 hFl
    go_wp2_with fail
    go_loopw [3, 5] (fun ov iv wr => ∃ (k : Nat) (C : List (List UInt8)), k ≤ F.length ∧ iv = .int .i64 k ∧ cluL ((preL T.body 0).take k) = C ∧ Nrow wr w.heap.size ov C ∧ wr.ownsRow w2.heap.size 54 6 (.slice (some ⟨g, 0, none⟩) F.length oc) F.length (flatF F) ∧ Below w.heap.size w wr) (fun _ iv _ => F.length - (intOf iv).toNat)
    case atStart => exact ⟨0, [], Nat.zero_le _, rfl, rfl, HO3.out, HO.out, hB3⟩
    case round =>
      obtain ⟨k, C, hk, rfl, hC, hrow, hown, hBr⟩ := hrel
      rename World => wr
      have HOr := Lib.hid hown
      have HC := Lib.hid hC
      have HR := Lib.hid hrow
      have hCl : C.length ≤ 600 := by
        rw [← hC]
        have := cluL_len ((preL T.body 0).take k)
        rw [List.length_take] at this
        omega
      have hsz := hBr.size
      clear hC hrow hown
      by_cases hlt : k < F.length
      · obtain ⟨p0, p1, -, -, -, -⟩ := flat_at HOr.out hlt
        obtain ⟨r0, r1, -, -, -, -⟩ := flat_at2 HOr.out hlt
        obtain ⟨hk2, hgk⟩ := fin_get HF.out hlt
        have hsn := cluL_snoc ((preL T.body 0).take k) (preL T.body 0)[k]
        rw [← take_pair hk2, hgk, HC.out] at hsn
        obtain ⟨f, hfe⟩ : ∃ f, F[k] = f := ⟨_, rfl⟩
        rw [hfe] at p0 p1 r0 r1 hsn
        obtain ⟨s, lv, rv, av, bv'⟩ := f
        simp only at p0 p1 r0 r1 hsn
        have i0 : (0 : Int) ≤ (k : Int) := by omega
        have i1 : (k : Int) < (F.length : Int) := by omega
        clear hfe hgk
        by_cases h5 : s.kind = 5
        · rw [if_pos h5] at hsn
          have HN := Lib.hid hsn
          have b5 : (s.kind == 5) = true := by rw [beq_iff_eq]; exact h5
          clear hsn h5
          go_wp2_with (at_builtin; refine app_name rfl (.tmp 27) (.tmp 34) rfl w.heap.size _ C s.name rfl rfl HR (by omega) (by omega) ?_; intro v4 w4 hrow4 hgrow4; have hB4 := hBr.grown hgrow4 (by omega) (fun q hq => (World.ownsRow.lt HR.out q hq).1); have HO4 := Lib.hid (World.ownsRow.kept HOr.out hgrow4 (own_far HOr.out HR.out (by decide))); clear hgrow4)
          go_roundw
          case rel => exact ⟨k + 1, _, by omega, by go_num, HN.out, hrow4, HO4.out, hB4⟩
          case measure => simp [intOf]; omega
        · rw [if_neg h5, List.append_nil] at hsn
          have HN := Lib.hid hsn
          have b5 : (s.kind == 5) = false := by rw [beq_eq_false_iff_ne]; exact h5
          clear hsn h5
          go_wp2
          go_roundw
          case rel => exact ⟨k + 1, C, by omega, by go_num, HN.out, HR.out, HOr.out, hBr⟩
          case measure => simp [intOf]; omega
      · obtain rfl : k = F.length := by omega
        have HN : Hid (C = L) := Lib.hid (by
          rw [← HL.out, ← HC.out, ← HF.out, List.take_of_length_le (by rw [List.length_map]; exact Nat.le_refl _)])
        obtain rfl := HN.out
        go_wp2
        go_ret
        exact ⟨_, rfl, HR.out.nl, hBr⟩
  · rw [if_neg hE0] at hr
    subst hr
    have b1 : (E != 0) = true := by simp [hE0]
    clear hE0
    go_wp2
    go_ret
    exact ⟨_, rfl, HO2.out.nl, hB2⟩
end Go.Proofs.Ytgnhpjbkbefgpaa.tre
