/-
  What the library's slices.Clone leaves of refs, attributes and statements: rows in blocks of their own. Conditions: slices in memory, of at most 1000 elements.
-/
import Derived.Test.YtgnhpjbkbefgpaaTreRx
import Derived.Laws.OwnMore
namespace Go.Proofs.Ytgnhpjbkbefgpaa.tre
open Go.RowKit Go.Shelf lex

theorem flat_len {X : Type} (f : X → List Value) (k : Nat) (hk : ∀ x, (f x).length = k) (l : List X) : (l.flatMap f).length = l.length * k := by
  induction l with
  | nil => simp
  | cons x t ih => rw [List.flatMap_cons, List.length_append, ih, hk, List.length_cons, Nat.add_mul]; omega
theorem flat_get {X : Type} (f : X → List Value) (k : Nat) (hk : ∀ x, (f x).length = k) : ∀ (l : List X) (i j : Nat) (h : i < l.length), j < k → (l.flatMap f)[i * k + j]? = (f l[i])[j]? := by
  intro l
  induction l with
  | nil => intro i j h; simp at h
  | cons x t ih =>
    intro i j h hj
    rw [List.flatMap_cons]
    cases i with
    | zero => rw [Nat.zero_mul, Nat.zero_add, List.getElem?_append_left (by rw [hk]; exact hj)]; rfl
    | succ i =>
      rw [List.getElem?_append_right (by rw [hk, Nat.add_mul]; omega), hk, show (i + 1) * k + j - k = i * k + j by rw [Nat.add_mul]; omega]
      exact ih i j (by simpa using h) hj
theorem flat_cell {X : Type} {f : X → List Value} {k : Nat} (hk : ∀ x, (f x).length = k) (h0 : 0 < k) {l : List X} {P : Nat → Value → Prop} (h : ∀ i (hi : i < l.length) j, j < k → ∀ u, (f l[i])[j]? = some u → P (i * k + j) u) : ∀ j u, (l.flatMap f)[j]? = some u → P j u := by
  intro j u hu
  have hlt : j < (l.flatMap f).length := (List.getElem?_eq_some_iff.1 hu).1
  rw [flat_len f k hk] at hlt
  have hi : j / k < l.length := Nat.div_lt_of_lt_mul (by rw [Nat.mul_comm]; exact hlt)
  have e : j / k * k + j % k = j := by rw [Nat.mul_comm]; exact Nat.div_add_mod j k
  have hm := Nat.mod_lt j h0
  have := flat_get f k hk l (j / k) (j % k) hi hm
  rw [e, hu] at this
  have := h (j / k) hi (j % k) hm u this.symm
  rwa [e] at this
/-- What a row that was made holds, place by place. -/
theorem own_blk {w : World} {B s n : Nat} {t : TypeId} {v : Value} {xs : List Value} (h : w.ownsRow B t s v n xs) (hn : 0 < n) : ∃ g cap arr, v = .slice (some ⟨g, 0, none⟩) n cap ∧ B ≤ g ∧ blk w g t arr ∧ n ≤ cap ∧ cap ≤ maxLen ∧ ∀ j, j < n * s → arr[j]? = xs[j]? := by
  rcases h.2 with ⟨_, rfl⟩ | ⟨g, cap, cur, rfl, hB, hk, h1, h2, h3, h4⟩
  · omega
  · refine ⟨g, cap, cur, rfl, hB, hk, h1, h2, fun j hj => ?_⟩
    rw [← h4, List.getElem?_take_of_lt hj, Array.getElem?_toList]
theorem own_nil {w : World} {B s : Nat} {t : TypeId} {v : Value} {xs : List Value} (h : w.ownsRow B t s v 0 xs) : ∃ ao cap, v = .slice ao 0 cap ∧ cap ≤ maxLen := by
  rcases h.2 with ⟨rfl, _⟩ | ⟨g, cap, cur, rfl, _, _, _, h2, _⟩
  · exact ⟨_, 0, rfl, by decide⟩
  · exact ⟨_, cap, rfl, h2⟩
theorem info_clr : (Try.prog.info? 39).map (fun i => (i.zero, i.size, i.bytes)) = some (some (.agg #[.string ⟨#[]⟩, .string ⟨#[]⟩]), 2, 32) := by kernel_rfl
theorem info_of_clr : ∃ i, Try.prog.info? 39 = some i ∧ i.zero = some (.agg #[.string ⟨#[]⟩, .string ⟨#[]⟩]) ∧ i.size = 2 ∧ i.bytes = 32 := by
  have h := info_clr
  cases hq : Try.prog.info? 39 with
  | none => rw [hq] at h; cases h
  | some i =>
    rw [hq] at h
    simp only [Option.map_some, Option.some.injEq, Prod.mk.injEq] at h
    exact ⟨i, rfl, h.1, h.2.1, h.2.2⟩
set_option maxRecDepth 100000 in
set_option maxHeartbeats 4000000 in
theorem clz_r (A : Addr) (c : Nat) (w : World) : Calls Try.prog 59 #[.slice (some A) 0 c] w fun e w' => ∃ v', e = .returned v' ∧ (∃ ao cap, v' = .slice ao 0 cap ∧ cap ≤ maxLen) ∧ Below w.heap.size w w' := by
  obtain ⟨i0, hi, hz0, hz1, hz2⟩ := info_of_clr
  have q22 : ∀ (w : World) (a : Option Addr) (n c n' c' : Nat), (binOp .eql 40 (.slice a n c) (.slice none n' c')).run Try.prog w = .ok (.bool a.isNone) w := fun w a n c n' c' => Lib.run_eql_slice_nil w _ _ a n c n' c' Try.underlying40
  go_enter Try.func59, Try.ntmps59
  go_wp2_with (at_builtin; refine wpList_append_own _ rfl _ _ 40 rfl w.heap.size 39 i0 _ 2 32 Try.underlying40 hi hz0 hz1 hz2 rfl (by decide) _ _ _ rfl (World.ownsRow_made w #[] 0 (Nat.le_refl _) (Nat.zero_le _) (by simp)) A 0 c [] rfl rfl (by simp) (by simp) (by decide) (by decide) (by simp) ?_)
  intro v' w1 hown hgrow _
  have hnil := own_nil hown
  have hb := ((Below.refl w.heap.size w).alloc (Nat.le_refl _) _).grown hgrow (by simp) (by intro k hk; simp [Value.ownBlock] at hk; omega)
  clear hown hgrow
  go_wp2
  go_ret
  exact ⟨v', rfl, hnil, hb⟩
theorem clr_of (v : Value) (l : List Pr) (w : World) (h : Hid (Prs w v l)) (hl : l.length ≤ 1000) :
    Calls Try.prog 59 #[v] w fun e w' => ∃ v', e = .returned v' ∧ rowP w' 39 v' l (inI w.heap.size w'.heap.size) ∧ Below w.heap.size w w' := by
  obtain ⟨ao, cap, rfl, hc, hm, hA⟩ := id h.out
  by_cases h0 : l.length = 0
  · obtain rfl : l = [] := List.length_eq_zero_iff.1 h0
    cases ao with
    | none =>
      refine (AnyE.slices_Clone_nil lays_clr 0 cap w).mono ?_
      rintro e w' ⟨rfl, rfl⟩
      exact ⟨_, rfl, ⟨none, 0, rfl, Nat.le_refl _, by decide, fun h => absurd h (by simp)⟩, Below.refl _ _⟩
    | some A =>
      refine (clz_r A cap w).mono ?_
      rintro e w' ⟨v', rfl, ⟨ao, c2, rfl, hc2⟩, hb⟩
      exact ⟨_, rfl, ⟨ao, c2, rfl, Nat.zero_le _, hc2, fun h => absurd h (by simp)⟩, hb⟩
  · obtain ⟨_, b, o, rfl, _, hcl⟩ := h.out.at (by omega)
    obtain ⟨i0, hi, hz0, hz1, hz2⟩ := info_of_clr
    have hfl : (l.flatMap prC).length = l.length * 2 := flat_len prC 2 (fun _ => rfl) l
    refine (AnyE.slices_Clone lays_clr i0 _ 2 32 hi hz0 hz1 hz2 rfl (by decide) Try.sizeOf39 b o l.length cap (l.flatMap prC) w hfl (by unfold maxLen; omega) (by omega) ?_ ?_).mono ?_
    · refine flat_cell (f := prC) (k := 2) (fun _ => rfl) (by decide) (P := fun j u => w.cell? ⟨b, o + j, none⟩ = some u) (fun i hi' j hj u hu => ?_)
      rw [← Nat.add_assoc]
      exact hcl i hi' j u (by rw [getElem!_pos l i hi']; exact hu)
    · intro u hu
      obtain ⟨r, _, hr⟩ := List.mem_flatMap.1 hu
      rcases List.mem_cons.1 hr with rfl | hr
      · rfl
      · rcases List.mem_cons.1 hr with rfl | hr
        · rfl
        · cases hr
    · rintro e w' ⟨v', rfl, hown, _, hb⟩
      obtain ⟨g, c2, arr, rfl, hg, hk, h1, h2, h3⟩ := own_blk hown (by omega)
      refine ⟨_, rfl, ⟨_, c2, rfl, h1, h2, fun _ => ⟨g, arr, rfl, ⟨hg, blk_lt hk⟩, hk, fun i hi' => ?_⟩⟩, hb⟩
      obtain ⟨A', eA, hp⟩ := hA (by omega)
      obtain ⟨_, _, p2, p3⟩ := hp i hi'
      have e0 := flat_get prC 2 (fun _ => rfl) l i 0 hi' (by decide)
      have e1 := flat_get prC 2 (fun _ => rfl) l i 1 hi' (by decide)
      exact ⟨by rw [h3 _ (by omega)]; exact e0, by rw [h3 _ (by omega)]; exact e1, p2, p3⟩
theorem info_cla : (Try.prog.info? 70).map (fun i => (i.zero, i.size, i.bytes)) = some (some (.agg #[.string ⟨#[]⟩, .string ⟨#[]⟩]), 2, 32) := by kernel_rfl
theorem info_of_cla : ∃ i, Try.prog.info? 70 = some i ∧ i.zero = some (.agg #[.string ⟨#[]⟩, .string ⟨#[]⟩]) ∧ i.size = 2 ∧ i.bytes = 32 := by
  have h := info_cla
  cases hq : Try.prog.info? 70 with
  | none => rw [hq] at h; cases h
  | some i =>
    rw [hq] at h
    simp only [Option.map_some, Option.some.injEq, Prod.mk.injEq] at h
    exact ⟨i, rfl, h.1, h.2.1, h.2.2⟩
set_option maxRecDepth 100000 in
set_option maxHeartbeats 4000000 in
theorem clz_a (A : Addr) (c : Nat) (w : World) : Calls Try.prog 60 #[.slice (some A) 0 c] w fun e w' => ∃ v', e = .returned v' ∧ (∃ ao cap, v' = .slice ao 0 cap ∧ cap ≤ maxLen) ∧ Below w.heap.size w w' := by
  obtain ⟨i0, hi, hz0, hz1, hz2⟩ := info_of_cla
  have q22 : ∀ (w : World) (a : Option Addr) (n c n' c' : Nat), (binOp .eql 41 (.slice a n c) (.slice none n' c')).run Try.prog w = .ok (.bool a.isNone) w := fun w a n c n' c' => Lib.run_eql_slice_nil w _ _ a n c n' c' Try.underlying41
  go_enter Try.func60, Try.ntmps60
  go_wp2_with (at_builtin; refine wpList_append_own _ rfl _ _ 41 rfl w.heap.size 70 i0 _ 2 32 Try.underlying41 hi hz0 hz1 hz2 rfl (by decide) _ _ _ rfl (World.ownsRow_made w #[] 0 (Nat.le_refl _) (Nat.zero_le _) (by simp)) A 0 c [] rfl rfl (by simp) (by simp) (by decide) (by decide) (by simp) ?_)
  intro v' w1 hown hgrow _
  have hnil := own_nil hown
  have hb := ((Below.refl w.heap.size w).alloc (Nat.le_refl _) _).grown hgrow (by simp) (by intro k hk; simp [Value.ownBlock] at hk; omega)
  clear hown hgrow
  go_wp2
  go_ret
  exact ⟨v', rfl, hnil, hb⟩
theorem cla_of (v : Value) (l : List Pr) (w : World) (h : Hid (Prs w v l)) (hl : l.length ≤ 1000) :
    Calls Try.prog 60 #[v] w fun e w' => ∃ v', e = .returned v' ∧ rowP w' 70 v' l (inI w.heap.size w'.heap.size) ∧ Below w.heap.size w w' := by
  obtain ⟨ao, cap, rfl, hc, hm, hA⟩ := id h.out
  by_cases h0 : l.length = 0
  · obtain rfl : l = [] := List.length_eq_zero_iff.1 h0
    cases ao with
    | none =>
      refine (AnyE.slices_Clone_nil lays_cla 0 cap w).mono ?_
      rintro e w' ⟨rfl, rfl⟩
      exact ⟨_, rfl, ⟨none, 0, rfl, Nat.le_refl _, by decide, fun h => absurd h (by simp)⟩, Below.refl _ _⟩
    | some A =>
      refine (clz_a A cap w).mono ?_
      rintro e w' ⟨v', rfl, ⟨ao, c2, rfl, hc2⟩, hb⟩
      exact ⟨_, rfl, ⟨ao, c2, rfl, Nat.zero_le _, hc2, fun h => absurd h (by simp)⟩, hb⟩
  · obtain ⟨_, b, o, rfl, _, hcl⟩ := h.out.at (by omega)
    obtain ⟨i0, hi, hz0, hz1, hz2⟩ := info_of_cla
    have hfl : (l.flatMap prC).length = l.length * 2 := flat_len prC 2 (fun _ => rfl) l
    refine (AnyE.slices_Clone lays_cla i0 _ 2 32 hi hz0 hz1 hz2 rfl (by decide) Try.sizeOf70 b o l.length cap (l.flatMap prC) w hfl (by unfold maxLen; omega) (by omega) ?_ ?_).mono ?_
    · refine flat_cell (f := prC) (k := 2) (fun _ => rfl) (by decide) (P := fun j u => w.cell? ⟨b, o + j, none⟩ = some u) (fun i hi' j hj u hu => ?_)
      rw [← Nat.add_assoc]
      exact hcl i hi' j u (by rw [getElem!_pos l i hi']; exact hu)
    · intro u hu
      obtain ⟨r, _, hr⟩ := List.mem_flatMap.1 hu
      rcases List.mem_cons.1 hr with rfl | hr
      · rfl
      · rcases List.mem_cons.1 hr with rfl | hr
        · rfl
        · cases hr
    · rintro e w' ⟨v', rfl, hown, _, hb⟩
      obtain ⟨g, c2, arr, rfl, hg, hk, h1, h2, h3⟩ := own_blk hown (by omega)
      refine ⟨_, rfl, ⟨_, c2, rfl, h1, h2, fun _ => ⟨g, arr, rfl, ⟨hg, blk_lt hk⟩, hk, fun i hi' => ?_⟩⟩, hb⟩
      obtain ⟨A', eA, hp⟩ := hA (by omega)
      obtain ⟨_, _, p2, p3⟩ := hp i hi'
      have e0 := flat_get prC 2 (fun _ => rfl) l i 0 hi' (by decide)
      have e1 := flat_get prC 2 (fun _ => rfl) l i 1 hi' (by decide)
      exact ⟨by rw [h3 _ (by omega)]; exact e0, by rw [h3 _ (by omega)]; exact e1, p2, p3⟩
theorem info_cls : (Try.prog.info? 43).map (fun i => (i.zero, i.size, i.bytes)) = some (some (.agg #[.int .i64 0, .string ⟨#[]⟩, .slice none 0 0, .slice none 0 0, .slice none 0 0]), 5, 96) := by kernel_rfl
theorem info_of_cls : ∃ i, Try.prog.info? 43 = some i ∧ i.zero = some (.agg #[.int .i64 0, .string ⟨#[]⟩, .slice none 0 0, .slice none 0 0, .slice none 0 0]) ∧ i.size = 5 ∧ i.bytes = 96 := by
  have h := info_cls
  cases hq : Try.prog.info? 43 with
  | none => rw [hq] at h; cases h
  | some i =>
    rw [hq] at h
    simp only [Option.map_some, Option.some.injEq, Prod.mk.injEq] at h
    exact ⟨i, rfl, h.1, h.2.1, h.2.2⟩
set_option maxRecDepth 100000 in
set_option maxHeartbeats 4000000 in
theorem clz_s (A : Addr) (c : Nat) (w : World) : Calls Try.prog 58 #[.slice (some A) 0 c] w fun e w' => ∃ v', e = .returned v' ∧ (∃ ao cap, v' = .slice ao 0 cap ∧ cap ≤ maxLen) ∧ Below w.heap.size w w' := by
  obtain ⟨i0, hi, hz0, hz1, hz2⟩ := info_of_cls
  have q22 : ∀ (w : World) (a : Option Addr) (n c n' c' : Nat), (binOp .eql 22 (.slice a n c) (.slice none n' c')).run Try.prog w = .ok (.bool a.isNone) w := fun w a n c n' c' => Lib.run_eql_slice_nil w _ _ a n c n' c' Try.underlying22
  go_enter Try.func58, Try.ntmps58
  go_wp2_with (at_builtin; refine wpList_append_own _ rfl _ _ 22 rfl w.heap.size 43 i0 _ 5 96 Try.underlying22 hi hz0 hz1 hz2 rfl (by decide) _ _ _ rfl (World.ownsRow_made w #[] 0 (Nat.le_refl _) (Nat.zero_le _) (by simp)) A 0 c [] rfl rfl (by simp) (by simp) (by decide) (by decide) (by simp) ?_)
  intro v' w1 hown hgrow _
  have hnil := own_nil hown
  have hb := ((Below.refl w.heap.size w).alloc (Nat.le_refl _) _).grown hgrow (by simp) (by intro k hk; simp [Value.ownBlock] at hk; omega)
  clear hown hgrow
  go_wp2
  go_ret
  exact ⟨v', rfl, hnil, hb⟩
/-- A statement by its cells, what hangs on it as values. -/
structure Sv where
  s : St
  rv : Value
  av : Value
  bv : Value
def svC (x : Sv) : List Value := [.int .i64 x.s.kind, .string (bb x.s.name), x.rv, x.av, x.bv]
def svOk (w : World) (x : Sv) : Prop := x.s.name.length ≤ maxLen ∧ Prs w x.rv x.s.refs ∧ Prs w x.av x.s.attrs ∧ Sts w x.bv x.s.body
theorem sts_sv {w : World} {B : Addr} {l : List St} (h : stsAt w l B 0) : ∃ Q : List Sv, Q.map Sv.s = l ∧ (∀ x ∈ Q, svOk w x) ∧ ∀ i (hi : i < Q.length) j u, (svC Q[i])[j]? = some u → w.cell? ⟨(B.add (i * 5)).block, (B.add (i * 5)).off + j, none⟩ = some u := by
  have key : ∀ i, i < l.length → ∃ x : Sv, ∀ hi : i < l.length, x.s = l[i] ∧ svOk w x ∧ ∀ j u, (svC x)[j]? = some u → w.cell? ⟨(B.add (i * 5)).block, (B.add (i * 5)).off + j, none⟩ = some u := by
    intro i hi
    have h1 := stsAt_get h i hi
    rw [Nat.zero_add] at h1
    obtain ⟨c0, c1, hn, ⟨rv, c2, hr⟩, ⟨av, c3, ha⟩, bv, c4, hb⟩ := (stAt_eq _ _ _).1 h1
    refine ⟨⟨l[i], rv, av, bv⟩, fun _ => ⟨rfl, ⟨hn, hr, ha, hb⟩, fun j u hu => ?_⟩⟩
    match j, hu with
    | 0, hu => obtain rfl := Option.some.inj hu; rw [spot_none c0] at c0; exact c0
    | 1, hu => obtain rfl := Option.some.inj hu; exact c1
    | 2, hu => obtain rfl := Option.some.inj hu; exact c2
    | 3, hu => obtain rfl := Option.some.inj hu; exact c3
    | 4, hu => obtain rfl := Option.some.inj hu; exact c4
    | (j + 5), hu => simp [svC] at hu
  haveI : Inhabited Sv := ⟨⟨.mk 0 [] [] [] [], .bool false, .bool false, .bool false⟩⟩
  obtain ⟨f, hf⟩ := Deep.choose_lt key
  refine ⟨(List.range l.length).map f, ?_, fun x hx => ?_, fun i hi j u hu => ?_⟩
  · refine List.ext_getElem (by simp) fun i h1 h2 => ?_
    have := (hf i h2 h2).1
    simpa using this
  · obtain ⟨i, hi, rfl⟩ := List.mem_map.1 hx
    rw [List.mem_range] at hi
    exact (hf i hi hi).2.1
  · have hi' : i < l.length := by simpa using hi
    exact (hf i hi' hi').2.2 j u (by simpa using hu)
theorem sv_one {w : World} {Q : List Sv} (h : ∀ x ∈ Q, svOk w x) : ∀ u ∈ Q.flatMap svC, u.oneCell' = true := by
  intro u hu
  obtain ⟨x, hx, hr⟩ := List.mem_flatMap.1 hu
  obtain ⟨_, h1, h2, h3⟩ := h x hx
  simp only [svC, List.mem_cons, List.not_mem_nil, or_false] at hr
  rcases hr with rfl | rfl | rfl | rfl | rfl
  · rfl
  · rfl
  · exact prs_one h1
  · exact prs_one h2
  · exact sts_one h3
/-- What Clone leaves of statements: their cells, in a block of their own. -/
def CloneOut (l : List St) (w : World) (e : Ending) (w' : World) : Prop := ∃ ao cap, e = .returned (.slice ao l.length cap) ∧ l.length ≤ cap ∧ cap ≤ maxLen ∧ Below w.heap.size w w' ∧ (0 < l.length → ∃ g arr, ao = some ⟨g, 0, none⟩ ∧ w.heap.size ≤ g ∧ blk w' g 43 arr ∧
  ∃ Q : List Sv, Q.map Sv.s = l ∧ (∀ x ∈ Q, svOk w x) ∧ ∀ i (hi : i < Q.length) j, j < 5 → arr[i * 5 + j]? = (svC Q[i])[j]?)
theorem cls_of (v : Value) (l : List St) (w : World) (h : Hid (Sts w v l)) (hl : l.length ≤ 1000) : Calls Try.prog 58 #[v] w (CloneOut l w) := by
  obtain ⟨ao, cap, rfl, hc, hm, hA⟩ := id h.out
  by_cases h0 : l.length = 0
  · obtain rfl : l = [] := List.length_eq_zero_iff.1 h0
    cases ao with
    | none =>
      refine (AnyE.slices_Clone_nil lays_cls 0 cap w).mono ?_
      rintro e w' ⟨rfl, rfl⟩
      exact ⟨none, 0, rfl, Nat.le_refl _, by decide, Below.refl _ _, fun h => absurd h (by simp)⟩
    | some A =>
      refine (clz_s A cap w).mono ?_
      rintro e w' ⟨v', rfl, ⟨ao, c2, rfl, hc2⟩, hb⟩
      exact ⟨ao, c2, rfl, Nat.zero_le _, hc2, hb, fun h => absurd h (by simp)⟩
  · obtain ⟨B, rfl, hB⟩ := hA (by omega)
    obtain ⟨Q, e1, e2, e3⟩ := sts_sv hB
    have hQl : Q.length = l.length := by rw [← e1, List.length_map]
    have hB0 := stsAt_get hB 0 (by omega)
    rw [Nat.zero_add, Nat.zero_mul, show B.add 0 = B by unfold Addr.add; rw [if_pos rfl]] at hB0
    have hs := spot_none ((stAt_eq _ _ _).1 hB0).1
    obtain ⟨b, o, q⟩ := B
    simp only [Addr.mk.injEq, true_and] at hs
    subst hs
    obtain ⟨i0, hi, hz0, hz1, hz2⟩ := info_of_cls
    have hfl : (Q.flatMap svC).length = l.length * 5 := by rw [flat_len svC 5 (fun _ => rfl), hQl]
    refine (AnyE.slices_Clone lays_cls i0 _ 5 96 hi hz0 hz1 hz2 rfl (by decide) Try.sizeOf43 b o l.length cap (Q.flatMap svC) w hfl (by unfold maxLen; omega) (by omega) ?_ (sv_one e2)).mono ?_
    · refine flat_cell (f := svC) (k := 5) (fun _ => rfl) (by decide) (P := fun j u => w.cell? ⟨b, o + j, none⟩ = some u) (fun i hi' j hj u hu => ?_)
      have := e3 i hi' j u hu
      rw [add_at] at this
      rw [← Nat.add_assoc]; exact this
    · rintro e w' ⟨v', rfl, hown, _, hb⟩
      obtain ⟨g, c2, arr, rfl, hg, hk, h1, h2, h3⟩ := own_blk hown (by omega)
      refine ⟨_, c2, rfl, h1, h2, hb, fun _ => ⟨g, arr, rfl, hg, hk, Q, e1, e2, fun i hi' j hj => ?_⟩⟩
      rw [h3 _ (by omega)]
      exact flat_get svC 5 (fun _ => rfl) Q i j hi' hj
end Go.Proofs.Ytgnhpjbkbefgpaa.tre
