/-
  Plain facts on how the landed code of layer 15 finds orders, longest paths and what a vertex reaches: lists of heads, counts of arcs that still wait, marks with a stack. No function of the program is named here; conditions as each theorem states them.
-/
import Derived.Test.YtncedgnpdojkkaaTpoStr
namespace Go.Proofs.Ytncedgnpdojkkaa.tpo
open dig

/-! ### The heads of the arcs that begin at a vertex -/
def outs (l : List Ar) (u : Int) : List Int := (l.filter fun a => a.1 == u).map (·.2)
theorem outs_mem {l : List Ar} {u x : Int} : x ∈ outs l u ↔ (u, x) ∈ l := by
  unfold outs
  simp only [List.mem_map, List.mem_filter, beq_iff_eq]
  constructor
  · rintro ⟨⟨p, q⟩, ⟨h1, h2⟩, rfl⟩; simp only at h2; subst h2; exact h1
  · intro h; exact ⟨(u, x), ⟨h, rfl⟩, rfl⟩
theorem outs_len (l : List Ar) (u : Int) : (outs l u).length ≤ l.length := by
  unfold outs; rw [List.length_map]; exact List.length_filter_le ..
theorem outs_rng {l : List Ar} {n : Int} (hok : ∀ a ∈ l, okA n a = true) {u x : Int} (h : x ∈ outs l u) : 0 ≤ x ∧ x < n := by
  have := okA_iff.1 (hok _ (outs_mem.1 h)); exact ⟨this.2.2.1, this.2.2.2⟩
theorem outs_take {l : List Ar} {k : Nat} (hk : k < l.length) (u : Int) : outs (l.take (k + 1)) u = outs (l.take k) u ++ (if l[k].1 = u then [l[k].2] else []) := by
  unfold outs
  rw [List.take_succ_eq_append_getElem hk, List.filter_append, List.map_append]
  congr 1
  by_cases e : l[k].1 = u
  · rw [if_pos e, List.filter_cons, if_pos (by rw [beq_iff_eq]; exact e)]; rfl
  · rw [if_neg e, List.filter_cons, if_neg (by rw [beq_iff_eq]; exact e)]; rfl
def outsL (l : List Ar) (n : Nat) : List (List Int) := (List.range n).map fun u : Nat => outs l (u : Int)
theorem outsL_len (l : List Ar) (n : Nat) : (outsL l n).length = n := by unfold outsL; simp
theorem outsL_at {l : List Ar} {n u : Nat} (h : u < n) : (outsL l n)[u]? = some (outs l (u : Int)) := by
  unfold outsL; rw [List.getElem?_map, List.getElem?_range h]; rfl
theorem outsL_zero (n : Nat) : outsL [] n = List.replicate n [] := by
  refine List.ext_getElem? fun u => ?_
  by_cases h : u < n
  · rw [outsL_at h, List.getElem?_replicate, if_pos h]; rfl
  · rw [List.getElem?_eq_none (by rw [outsL_len]; omega), List.getElem?_eq_none (by simp; omega)]
theorem outsL_step {l : List Ar} {n k u : Nat} (hk : k < l.length) (h1 : l[k].1 = (u : Int)) : outsL (l.take (k + 1)) n = (outsL (l.take k) n).set u (outs (l.take k) u ++ [l[k].2]) := by
  refine List.ext_getElem? fun x => ?_
  by_cases h : x < n
  · rw [outsL_at h, outs_take hk, List.getElem?_set, outsL_len, h1]
    by_cases e : u = x
    · subst e; rw [if_pos rfl, if_pos rfl, if_pos h]
    · rw [if_neg (by omega), if_neg e, outsL_at h, List.append_nil]
  · rw [List.getElem?_eq_none (by rw [outsL_len]; omega), List.getElem?_eq_none (by rw [List.length_set, outsL_len]; omega)]

/-! ### Arcs turned -/
def flipL (l : List Ar) : List Ar := l.map fun a => (a.2, a.1)
theorem flipL_len (l : List Ar) : (flipL l).length = l.length := by unfold flipL; simp
theorem flipL_take (l : List Ar) (k : Nat) : flipL (l.take k) = (flipL l).take k := by unfold flipL; rw [List.map_take]
theorem flipL_get {l : List Ar} {k : Nat} (h : k < l.length) : (flipL l)[k]'(by rw [flipL_len]; exact h) = (l[k].2, l[k].1) := by unfold flipL; simp
theorem flipL_ok {n : Int} {l : List Ar} (hok : ∀ a ∈ l, okA n a = true) : ∀ a ∈ flipL l, okA n a = true := by
  intro a ha
  unfold flipL at ha
  obtain ⟨b, hb, rfl⟩ := List.mem_map.1 ha
  have := okA_iff.1 (hok b hb)
  exact okA_iff.2 ⟨this.2.2.1, this.2.2.2, this.1, this.2.1⟩
theorem flipL_mem {l : List Ar} {u v : Int} : (u, v) ∈ flipL l ↔ (v, u) ∈ l := by
  unfold flipL
  rw [List.mem_map]
  constructor
  · rintro ⟨⟨p, q⟩, h, e⟩; cases e; exact h
  · intro h; exact ⟨(v, u), h, rfl⟩
theorem Path.head {l : List Ar} {u v w : Int} (ha : (u, v) ∈ l) (h : Path l v w) : Path l u w := by
  induction h with
  | refl => exact (Path.refl u).tail ha
  | tail _ hb ih => exact ih.tail hb
theorem path_flip {l : List Ar} {u v : Int} : Path (flipL l) u v ↔ Path l v u := by
  constructor
  · intro h
    induction h with
    | refl => exact .refl _
    | tail _ ha ih => exact Path.head (flipL_mem.1 ha) ih
  · intro h
    induction h with
    | refl => exact .refl _
    | tail _ ha ih => exact Path.head (flipL_mem.2 ha) ih

/-! ### Marks with a stack -/
/-- Between the rounds (c negative, j = 0), and within one: vertex c is under way, j of its heads are done. -/
structure Dfs (l : List Ar) (n : Nat) (v : Int) (I : List Bool) (O : List Int) (c : Int) (j : Nat) : Prop where
  made ::
  len : I.length = n
  first : mk I v.toNat = true
  sound : ∀ x : Nat, mk I x = true → Path l v x
  rng : ∀ x ∈ O, 0 ≤ x ∧ x < n
  on : ∀ x ∈ O, mk I x.toNat = true
  shut : ∀ x : Nat, mk I x = true → (x : Int) ∉ O → (x : Int) ≠ c → ∀ y ∈ outs l x, mk I y.toNat = true
  cur : 0 ≤ c → mk I c.toNat = true
  part : ∀ y ∈ (outs l c).take j, mk I y.toNat = true
def meas (I : List Bool) (O : List Int) : Nat := 2 * I.count false + O.length
theorem mk_lt {I : List Bool} {x : Nat} (h : mk I x = true) : x < I.length := by
  unfold mk at h
  rw [List.getD_eq_getElem?_getD] at h
  rcases Nat.lt_or_ge x I.length with q | q
  · exact q
  · rw [List.getElem?_eq_none q] at h; cases h
theorem Dfs.start {l : List Ar} {n : Nat} {v : Int} (h0 : 0 ≤ v) (h1 : v < n) : Dfs l n v ((List.replicate n false).set v.toNat true) [v] (-1) 0 := by
  have hs : ∀ u : Nat, mk ((List.replicate n false).set v.toNat true) u = decide (u = v.toNat) := fun u => by
    rw [mk_set _ _ _ (by simp; omega), mk_zero, Bool.or_false]
  refine ⟨by simp, by rw [hs]; simp, fun x hx => ?_, fun x hx => ?_, fun x hx => ?_, fun x hx hn _ => ?_, fun h => by omega, fun y hy => by simp at hy⟩
  · rw [hs, decide_eq_true_eq] at hx; subst hx; rw [Int.toNat_of_nonneg h0]; exact .refl _
  · rw [List.mem_singleton] at hx; subst hx; exact ⟨h0, h1⟩
  · rw [List.mem_singleton] at hx; subst hx; rw [hs]; simp
  · rw [hs, decide_eq_true_eq] at hx; subst hx; exact absurd (List.mem_singleton.2 (Int.toNat_of_nonneg h0)) hn
theorem Dfs.pop {l : List Ar} {n : Nat} {v u : Int} {I : List Bool} {O : List Int} (h : Dfs l n v I (O ++ [u]) (-1) 0) : Dfs l n v I O u 0 ∧ 0 ≤ u ∧ u < n := by
  have hu := h.rng u (by simp)
  refine ⟨⟨h.len, h.first, h.sound, fun x hx => h.rng x (List.mem_append_left _ hx), fun x hx => h.on x (List.mem_append_left _ hx), fun x hx hn hc => h.shut x hx (fun q => ?_) (by omega), fun _ => h.on u (by simp), fun y hy => by simp at hy⟩, hu⟩
  rcases List.mem_append.1 q with q | q
  · exact hn q
  · exact hc (List.mem_singleton.1 q)
theorem Dfs.seen {l : List Ar} {n : Nat} {v u y : Int} {I : List Bool} {O : List Int} {j : Nat} (h : Dfs l n v I O u j) (hj : (outs l u)[j]? = some y) (hy : mk I y.toNat = true) : Dfs l n v I O u (j + 1) := by
  refine ⟨h.len, h.first, h.sound, h.rng, h.on, h.shut, h.cur, fun z hz => ?_⟩
  obtain ⟨hj', e⟩ := List.getElem?_eq_some_iff.1 hj
  rw [List.take_succ_eq_append_getElem hj'] at hz
  rcases List.mem_append.1 hz with q | q
  · exact h.part z q
  · rw [List.mem_singleton] at q; rw [q, e]; exact hy
theorem Dfs.new {l : List Ar} {n : Nat} {v u y : Int} {I : List Bool} {O : List Int} {j : Nat} (hok : ∀ a ∈ l, okA n a = true) (hu : 0 ≤ u) (h : Dfs l n v I O u j) (hj : (outs l u)[j]? = some y) : Dfs l n v (I.set y.toNat true) (O ++ [y]) u (j + 1) := by
  obtain ⟨hj', e⟩ := List.getElem?_eq_some_iff.1 hj
  have hm : y ∈ outs l u := e ▸ List.getElem_mem hj'
  obtain ⟨y0, y1⟩ := outs_rng hok hm
  have hs : ∀ x : Nat, mk (I.set y.toNat true) x = (decide (x = y.toNat) || mk I x) := fun x => mk_set _ _ _ (by rw [h.len]; omega)
  have hmo : ∀ x : Nat, mk I x = true → mk (I.set y.toNat true) x = true := fun x hx => by rw [hs, hx, Bool.or_true]
  refine ⟨by rw [List.length_set]; exact h.len, hmo _ h.first, fun x hx => ?_, fun x hx => ?_, fun x hx => ?_, fun x hx hn hc z hz => ?_, fun hc => hmo _ (h.cur hc), fun z hz => ?_⟩
  · rw [hs, Bool.or_eq_true, decide_eq_true_eq] at hx
    rcases hx with rfl | hx
    · have := h.sound u.toNat (h.cur hu)
      rw [Int.toNat_of_nonneg hu] at this
      rw [Int.toNat_of_nonneg y0]
      exact this.tail (outs_mem.1 hm)
    · exact h.sound x hx
  · rcases List.mem_append.1 hx with q | q
    · exact h.rng x q
    · rw [List.mem_singleton] at q; subst q; exact ⟨y0, y1⟩
  · rcases List.mem_append.1 hx with q | q
    · exact hmo _ (h.on x q)
    · rw [List.mem_singleton] at q; subst q; rw [hs]; simp
  · rw [hs, Bool.or_eq_true, decide_eq_true_eq] at hx
    rcases hx with rfl | hx
    · exact absurd (List.mem_append_right _ (List.mem_singleton.2 (Int.toNat_of_nonneg y0))) hn
    · exact hmo _ (h.shut x hx (fun q => hn (List.mem_append_left _ q)) hc z hz)
  · rw [List.take_succ_eq_append_getElem hj'] at hz
    rcases List.mem_append.1 hz with q | q
    · exact hmo _ (h.part z q)
    · rw [List.mem_singleton] at q; rw [q, e, hs]; simp
theorem Dfs.over {l : List Ar} {n : Nat} {v u : Int} {I : List Bool} {O : List Int} (h : Dfs l n v I O u (outs l u).length) : Dfs l n v I O (-1) 0 := by
  refine ⟨h.len, h.first, h.sound, h.rng, h.on, fun x hx hn _ z hz => ?_, fun q => by omega, fun z hz => by simp at hz⟩
  by_cases e : (x : Int) = u
  · refine h.part z ?_
    rw [List.take_length, ← e]; exact hz
  · exact h.shut x hx hn e z hz
theorem Dfs.over' {l : List Ar} {n j : Nat} {v u : Int} {I : List Bool} {O : List Int} (h : Dfs l n v I O u j) (hj : (outs l u).length = j) : Dfs l n v I O (-1) 0 := by
  subst hj; exact h.over
theorem mk_ext {I J : List Bool} (hl : I.length = J.length) (h : ∀ u, mk I u = mk J u) : I = J := by
  refine List.ext_getElem hl fun u h1 h2 => ?_
  have := h u
  unfold mk at this
  rw [List.getD_eq_getElem?_getD, List.getD_eq_getElem?_getD, List.getElem?_eq_getElem h1, List.getElem?_eq_getElem h2] at this
  exact this
theorem Dfs.done {l : List Ar} {n : Nat} {v : Int} {I : List Bool} (hok : ∀ a ∈ l, okA n a = true) (h0 : 0 ≤ v) (h1 : v < n) (h : Dfs l n v I [] (-1) 0) : I = rchI n l v.toNat := by
  have hcl : ∀ {x y : Int}, Path l x y → x = v → mk I y.toNat = true := by
    intro x y hp
    induction hp with
    | refl => intro e; subst e; exact h.first
    | tail hp2 ha ih =>
      intro e
      subst e
      have hr := hp2.range hok h0 h1
      have := h.shut _ (ih rfl) (by simp) (by omega)
      rw [Int.toNat_of_nonneg hr.1] at this
      exact this _ (outs_mem.2 ha)
  refine mk_ext (by rw [h.len, rch_len]) fun u => ?_
  rw [Bool.eq_iff_iff, rch_iff hok (by omega), Int.toNat_of_nonneg h0]
  exact ⟨h.sound u, fun q => by have := hcl q rfl; simpa using this⟩
theorem count_set {I : List Bool} {k : Nat} (h : k < I.length) (hf : mk I k = false) : (I.set k true).count false + 1 = I.count false := by
  have e : I[k] = false := by
    unfold mk at hf
    rwa [List.getD_eq_getElem?_getD, List.getElem?_eq_getElem h] at hf
  have h1 : 0 < I.count false := List.count_pos_iff.2 (e ▸ List.getElem_mem h)
  rw [List.count_set h, e]
  simp; omega
theorem meas_new {I : List Bool} {O : List Int} {y : Int} (h : y.toNat < I.length) (hf : mk I y.toNat = false) : meas (I.set y.toNat true) (O ++ [y]) + 1 = meas I O := by
  have := count_set h hf
  unfold meas; rw [List.length_append, List.length_singleton]; omega
theorem meas_start (n : Nat) (v : Int) : meas ((List.replicate n false).set v.toNat true) [v] ≤ 2 * n + 1 := by
  unfold meas
  have : ((List.replicate n false).set v.toNat true).count false ≤ ((List.replicate n false).set v.toNat true).length := List.count_le_length
  rw [List.length_set, List.length_replicate] at this
  simp only [List.length_singleton]; omega
end Go.Proofs.Ytncedgnpdojkkaa.tpo
