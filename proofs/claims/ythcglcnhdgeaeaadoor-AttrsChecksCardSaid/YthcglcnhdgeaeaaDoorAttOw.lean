/-
  A list of attributes that comes in, as a statement hands it over: the length of each of its texts is among its reading's weights; where few lets the list by, its texts are short. No condition.
-/
import Derived.Test.YthcglcnhdgeaeaaDoorAttOpen
import Derived.Test.YthcglcnhdgeaeaaDoorMAf
import Derived.SizedLaws
namespace Go.Proofs.YthcglcnhdgeaeaaDoor.att
open Go.RowKit Go.Joins Go.ChangeAt Go.WideShapes Go.ChangeShapes lex tre

theorem weightsAll_mem {H : Type} {P : Program} {t : TypeId} {d : DataW H} : ∀ {l : List (DataW H)}, d ∈ l → ∀ n ∈ d.weights P t, n ∈ DataW.weightsAll P t l := by
  intro l
  induction l with
  | nil => intro h; exact nomatch h
  | cons x r ih =>
    intro h n hn
    simp only [DataW.weightsAll, List.mem_append]
    rcases List.mem_cons.1 h with rfl | h
    · exact Or.inl hn
    · exact Or.inr (ih h n hn)
set_option maxRecDepth 100000 in
theorem open_attrsW {H : Type} {enc : TypeId × Value → H} {w : World} {base : Nat} {spare : Nat → Bool} {held : Bool} {r : Reach} {b0 : Nat} {v : Value} {d : DataW H} {p : List MemPlace}
    (hv : Value.okWide Tryd.prog w r b0 22 v) (h : DataW.Trod enc Tryd.prog w base spare held 22 v d p) : ∃ l, Prs w v l ∧ ∀ u ∈ l, u.1.length ∈ DataW.weights Tryd.prog 22 d ∧ u.2.length ∈ DataW.weights Tryd.prog 22 d := by
  obtain ⟨a0, len0, cap0, rfl⟩ := okWide_slice Tryd.underlying22 hv
  obtain ⟨fuel, hf⟩ := h
  have key0 : ∀ {cs : List Value} {x : DataW H × List MemPlace}, DataW.trod enc Tryd.prog w base spare held fuel 22 cs = some x → ∃ v l, cs = [v] ∧ Prs w v l ∧ ∀ u ∈ l, u.1.length ∈ DataW.weights Tryd.prog 22 x.1 ∧ u.2.length ∈ DataW.weights Tryd.prog 22 x.1 := by
    intro cs x h
    rcases Deep.open_slice Tryd.underlying22 h with ⟨rfl, _⟩ | ⟨a, len, cap, m, n, D, Pl, rfl, _, hl, hm, hmm, hx, hi⟩
    · exact ⟨_, [], rfl, Prs.nil w, fun u hu => nomatch hu⟩
    · have hlm : len ≤ m := by rw [hmm]; split <;> omega
      have hcs : Tryd.prog.cellsOf 9 = 1 := by kernel_rfl
      have hc : Tryd.prog.cellsOf 28 = 2 := by kernel_rfl
      have key : ∀ i, i < len → ∃ r : Pr, prAt w a i r ∧ r.1.length ∈ DataW.weights Tryd.prog 28 (D i) ∧ r.2.length ∈ DataW.weights Tryd.prog 28 (D i) := by
        intro i hil
        obtain ⟨cs', hc', ht'⟩ := hi i (by omega)
        rw [hc] at hc'
        obtain ⟨_, hcl, hat⟩ := World.cells?_some hc'
        obtain ⟨y0, y1, q, hd, _, k0, k1⟩ := trod_struct2 Tryd.underlying28 ht'
        obtain ⟨c0, c1, rfl⟩ : ∃ c0 c1, cs' = [c0, c1] := by
          match cs', hcl with
          | [c0, c1], _ => exact ⟨c0, c1, rfl⟩
        simp [hcs] at k0 k1
        obtain ⟨x0, e0, g0, z0⟩ := DataW.trod_string Tryd.underlying9 k0
        obtain ⟨x1, e1, g1, z1⟩ := DataW.trod_string Tryd.underlying9 k1
        simp at e0 e1
        subst e0 e1
        have j0 := hat 0 (by omega)
        have j1 := hat 1 (by omega)
        rw [add_one_of _ 1 (by omega)] at j1
        have hb : DataW.weights Tryd.prog 28 (D i) = [x0.data.toList.length, x1.data.toList.length] := by
          rw [show D i = _ from congrArg Prod.fst hd, g0, g1]
          simp [DataW.weights, DataW.weightsEach, Tryd.underlying28]
        refine ⟨(x0.data.toList, x1.data.toList), ⟨?_, ?_, by simpa using z0, by simpa using z1⟩, by rw [hb]; exact List.mem_cons_self .., by rw [hb]; exact List.mem_cons_of_mem _ (List.mem_cons_self ..)⟩
        · show _ = some (Value.string (bb x0.data.toList)); rw [tre.bb_list]; exact j0
        · show _ = some (Value.string (bb x1.data.toList)); rw [tre.bb_list]; exact j1
      obtain ⟨f, hf⟩ := Deep.choose_lt key
      have hlen : ((List.range len).map f).length = len := by simp
      refine ⟨_, (List.range len).map f, rfl, ⟨some a, cap, by rw [hlen], by rw [hlen]; exact hl, hm, fun _ => ⟨a, rfl, fun i hi' => ?_⟩⟩, fun u hu => ?_⟩
      · rw [hlen] at hi'
        simpa using (hf i hi').1
      · obtain ⟨i, hi2, rfl⟩ := List.mem_map.1 hu
        have hi' := List.mem_range.1 hi2
        have h2 : ∀ n ∈ DataW.weights Tryd.prog 28 (D i), n ∈ DataW.weights Tryd.prog 22 x.1 := by
          intro n hn
          have h1 := weightsAll_mem (H := H) (d := D i) (l := (List.range len).map D) (List.mem_map.2 ⟨i, hi2, rfl⟩) n hn
          rw [hx]
          simp only [DataW.weights, Tryd.underlying22]
          exact List.mem_cons_of_mem _ (List.mem_append_left _ h1)
        exact ⟨h2 _ (hf i hi').2.1, h2 _ (hf i hi').2.2⟩
  obtain ⟨u, l, e, hp, hb⟩ := key0 hf
  simp [Value.cells] at e
  subst e
  exact ⟨l, hp, hb⟩
theorem few_small {l : List Pr} (h : fewV l = true) (hb : ∀ u ∈ l, u.1.length ≤ reachBytes ∧ u.2.length ≤ reachBytes) : Small l := by
  unfold fewV at h
  simp only [Bool.and_eq_true, List.all_eq_true, decide_eq_true_eq] at h
  intro r hr
  have h1 := h.2 r hr
  obtain ⟨b1, b2⟩ := hb r hr
  have := reachBytes_lt
  unfold sumW at h1
  rw [IntWalk.i64_in _ (by omega)] at h1
  omega
end Go.Proofs.YthcglcnhdgeaeaaDoor.att
