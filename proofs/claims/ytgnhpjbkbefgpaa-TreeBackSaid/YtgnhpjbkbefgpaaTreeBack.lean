/-
  Renaming a node and back (P7.5), and equality of trees: plain facts. No function of the program is named here; no condition.
-/
import Derived.Test.YtgnhpjbkbefgpaaTreePlain
namespace Go.Proofs.Ytgnhpjbkbefgpaa.tre
open lex

theorem stm_ren (a b : List UInt8) : (∀ s : St, ∀ most d, stmT (renS a b s).body most d = stmT s.body most d) ∧ ∀ l : List St, ∀ n most d, stmL (renL a b l) n most d = stmL l n most d := by
  refine st_ind (fun k nm r at' bd hb most d => ?_) (fun _ _ _ => rfl) (fun s t hs ht n most d => ?_)
  · rw [renS_eq]
    show stmT (renL a b bd) most d = stmT bd most d
    unfold stmT
    rw [hb]
  · rw [renL_cons, stmL_cons, stmL_cons, hs, ht]
    have e1 : (renS a b s).refs.length = s.refs.length := by rw [renS_eq]; show (s.refs.map _).length = _; rw [List.length_map]
    have e2 : (renS a b s).attrs = s.attrs := by rw [renS_eq]; rfl
    rw [e1, e2]
theorem few_ren (a b : List UInt8) (l : List St) : few (renL a b l) = few l := by
  unfold few
  have := (stm_ren a b).1 (.mk 0 [] [] [] l) 600 0
  rw [renS_eq] at this
  exact congrArg (fun x => decide (0 ≤ x)) this
theorem ren_kind (a b : List UInt8) (s : St) : (renS a b s).kind = s.kind := by rw [renS_eq]; rfl
theorem ren_name (a b : List UInt8) (s : St) : (renS a b s).name = if s.kind = 1 then mp a b s.name else s.name := by rw [renS_eq]; rfl
theorem ren_refs (a b : List UInt8) (s : St) : (renS a b s).refs = s.refs.map (mpR a b) := by rw [renS_eq]; rfl
theorem ren_attrs (a b : List UInt8) (s : St) : (renS a b s).attrs = s.attrs := by rw [renS_eq]; rfl
theorem ren_body (a b : List UInt8) (s : St) : (renS a b s).body = renL a b s.body := by rw [renS_eq]; rfl
theorem fld_ren (a b : List UInt8) (s : St) : fldE (renS a b s) = fldE s := by
  unfold fldE
  rw [ren_kind, ren_attrs, ren_body, ren_len, ren_refs, List.length_map, ren_name]
  by_cases h : s.kind = 1
  · rw [if_pos h]
    have n2 : ¬ s.kind = 2 := by omega
    have n3 : ¬ s.kind = 3 := by omega
    simp [n2, n3]
  · rw [if_neg h]
theorem mp_nm {a b x : List UInt8} (hb : isNm b = true) (hx : isNm x = true) : isNm (mp a b x) = true := by
  unfold mp; split
  · exact hb
  · exact hx
theorem sta_ren {a b : List UInt8} {s : St} {lv : Int} (hb : isNm b = true) (h : staE s lv = 0) : staE (renS a b s) lv = 0 := by
  unfold staE at h ⊢
  rw [fld_ren, ren_kind]
  by_cases h1 : fldE s ≠ 0
  · rw [if_pos h1] at h; exact absurd h h1
  · rw [if_neg h1] at h ⊢
    by_cases h2 : s.kind = 5 ∧ 6 ≤ lv
    · rw [if_pos h2] at h; exact absurd h (by decide)
    · rw [if_neg h2] at h ⊢
      by_cases h3 : s.kind ≠ 2 ∧ s.kind ≠ 3 ∧ isNm s.name = false
      · rw [if_pos h3] at h; exact absurd h (by decide)
      · rw [if_neg h3] at h
        have n3 : ¬ (s.kind ≠ 2 ∧ s.kind ≠ 3 ∧ isNm (renS a b s).name = false) := by
          rintro ⟨k2, k3, hn⟩
          have hs : isNm s.name = true := by
            cases hx : isNm s.name
            · exact absurd ⟨k2, k3, hx⟩ h3
            · rfl
          rw [ren_name] at hn
          by_cases hk : s.kind = 1
          · rw [if_pos hk, mp_nm hb hs] at hn; cases hn
          · rw [if_neg hk, hs] at hn; cases hn
        rw [if_neg n3]
        by_cases h4 : s.refs.all refB = false
        · rw [if_pos h4] at h; exact absurd h (by decide)
        · rw [if_neg h4] at h
          have n4 : ¬ (renS a b s).refs.all refB = false := by
            rw [ren_refs]
            simp only [Bool.not_eq_false] at h4 ⊢
            rw [List.all_eq_true] at h4 ⊢
            intro r hr
            obtain ⟨q, hq, rfl⟩ := List.mem_map.1 hr
            have := h4 q hq
            unfold refB mpR at *
            rw [Bool.and_eq_true] at this ⊢
            exact ⟨mp_nm hb this.1, this.2⟩
          rw [if_neg n4]
          unfold attE at h ⊢
          rw [ren_attrs, ren_kind]
          exact h
theorem cnt_ren (a b : List UInt8) (l : List St) : cnt (renL a b l) = cnt l := by unfold cnt; rw [(ren_pre a b).2, List.length_map]
theorem valid_ren {a b : List UInt8} {T : Tr} (hb : isNm b = true) (h : validT T = 0) : validT (renT a b T) = 0 := by
  obtain ⟨h1, h2, h3⟩ := (valid_iff T).1 h
  refine (valid_iff _).2 ⟨h1, by show cnt (renL a b T.body) ≤ 512; rw [cnt_ren]; exact h2, fun x hx => ?_⟩
  change x ∈ preL (renL a b T.body) 0 at hx
  rw [(ren_pre a b).2] at hx
  obtain ⟨y, hy, rfl⟩ := List.mem_map.1 hx
  exact sta_ren hb (h3 y hy)
theorem dep_ren (a b : List UInt8) (l : List St) (lv : Int) : depL (preL (renL a b l) lv) = depL (preL l lv) := by
  rw [(ren_pre a b).2]
  unfold depL
  rw [List.foldl_map]
  congr 1
  funext m x
  rw [ren_kind]
theorem nms_ren (a b : List UInt8) (s : St) : nmsS (renS a b s) = (nmsS s).map (mp a b) := by
  unfold nmsS
  rw [ren_kind, ren_name, ren_refs, List.map_append, List.map_map, List.map_map]
  by_cases h : s.kind = 1
  · rw [if_pos h, if_pos h, if_pos h]; rfl
  · rw [if_neg h, if_neg h]; rfl
theorem nmsL_ren (a b : List UInt8) (l : List St) (lv : Int) : nmsL (preL (renL a b l) lv) = (nmsL (preL l lv)).map (mp a b) := by
  rw [(ren_pre a b).2]
  unfold nmsL
  rw [List.flatMap_map, List.map_flatMap]
  congr 1
  funext x
  exact nms_ren a b x.1
theorem clu_ren (a b : List UInt8) (l : List St) (lv : Int) : cluL (preL (renL a b l) lv) = cluL (preL l lv) := by
  rw [(ren_pre a b).2]
  unfold cluL
  rw [List.flatMap_map]
  congr 1
  funext x
  rw [ren_kind, ren_name]
  by_cases h : x.1.kind = 5
  · rw [if_pos h, if_pos h, if_neg (by omega)]
  · rw [if_neg h, if_neg h]
theorem uniq_map {f : List UInt8 → List UInt8} : ∀ (l out : List (List UInt8)), (∀ x ∈ out ++ l, ∀ y ∈ out ++ l, f x = f y → x = y) → (l.map f).foldl addN (out.map f) = (l.foldl addN out).map f := by
  intro l
  induction l with
  | nil => intro out _; rfl
  | cons x t ih =>
    intro out h
    rw [List.map_cons, List.foldl_cons, List.foldl_cons]
    have e : addN (out.map f) (f x) = (addN out x).map f := by
      unfold addN
      by_cases c : x ∈ out
      · rw [if_pos (by simpa using ⟨x, c, rfl⟩), if_pos (by simpa using c)]
      · have c2 : ¬ f x ∈ out.map f := by
          intro hf
          obtain ⟨y, hy, e⟩ := List.mem_map.1 hf
          exact c (by rw [← h y (by simp [hy]) x (by simp) e]; exact hy)
        rw [if_neg (by simpa using c2), if_neg (by simpa using c), List.map_append]; rfl
    rw [e]
    refine ih _ (fun y hy z hz => h y ?_ z ?_)
    · rcases List.mem_append.1 hy with hy | hy
      · rcases addN_mem.1 hy with hy | rfl
        · simp [hy]
        · simp
      · simp [hy]
    · rcases List.mem_append.1 hz with hz | hz
      · rcases addN_mem.1 hz with hz | rfl
        · simp [hz]
        · simp
      · simp [hz]
theorem mp_inj {a b x y : List UInt8} (hx : x ≠ b) (hy : y ≠ b) (h : mp a b x = mp a b y) : x = y := by
  unfold mp at h
  by_cases c1 : x = a
  · by_cases c2 : y = a
    · rw [c1, c2]
    · rw [if_pos c1, if_neg c2] at h; exact absurd h.symm hy
  · by_cases c2 : y = a
    · rw [if_neg c1, if_pos c2] at h; exact absurd h hx
    · rw [if_neg c1, if_neg c2] at h; exact h
theorem mp_back {a b x : List UInt8} (hx : x ≠ b) : mp b a (mp a b x) = x := by
  unfold mp
  by_cases c : x = a
  · rw [if_pos c, if_pos rfl, c]
  · rw [if_neg c, if_neg hx]
/-- Where b is no node's name, renaming back restores the statements. -/
theorem ren_back (a b : List UInt8) : (∀ s : St, (∀ lv, ∀ x ∈ preS s lv, b ∉ nmsS x.1) → renS b a (renS a b s) = s) ∧ ∀ l : List St, (∀ lv, ∀ x ∈ preL l lv, b ∉ nmsS x.1) → renL b a (renL a b l) = l := by
  refine st_ind (fun k n r at' bd hb h => ?_) (fun _ => rfl) (fun s t hs ht h => ?_)
  · have h0 := h 0 (.mk k n r at' bd, 0) (by rw [preS_eq]; simp)
    have hb' := hb (fun lv x hx => by
      obtain ⟨lv', hl⟩ := pre_mem.2 bd lv (if k = 5 then 0 + 1 else 0) x hx
      exact h 0 (x.1, lv') (by rw [preS_eq]; exact List.mem_cons_of_mem _ hl))
    unfold nmsS at h0
    have hr : ∀ q ∈ r, q.1 ≠ b := fun q hq e => h0 (List.mem_append_right _ (List.mem_map.2 ⟨q, hq, e⟩))
    have hn : k = 1 → n ≠ b := fun e e2 => h0 (List.mem_append_left _ (by show b ∈ if k = 1 then [n] else []; rw [if_pos e, e2]; simp))
    rw [renS_eq, renS_eq]
    show St.mk k (if k = 1 then mp b a (if k = 1 then mp a b n else n) else (if k = 1 then mp a b n else n)) ((r.map (mpR a b)).map (mpR b a)) at' (renL b a (renL a b bd)) = _
    rw [hb', List.map_map]
    congr 1
    · by_cases e : k = 1
      · rw [if_pos e, if_pos e, mp_back (hn e)]
      · rw [if_neg e, if_neg e]
    · have : r.map (mpR b a ∘ mpR a b) = r.map id := List.map_congr_left (fun q hq => by
        show (mp b a (mp a b q.1), q.2) = q
        rw [mp_back (hr q hq)])
      rw [this, List.map_id]
  · rw [renL_cons, renL_cons, hs (fun lv x hx => h lv x (by rw [preL_cons]; exact List.mem_append_left _ hx)), ht (fun lv x hx => h lv x (by rw [preL_cons]; exact List.mem_append_right _ hx))]

/-! ### Equality -/
mutual
def eqS : St → St → Bool
  | .mk k n r a b, .mk k' n' r' a' b' => decide (k = k') && decide (n = n') && decide (r = r') && decide (a = a') && eqL b b'
def eqL : List St → List St → Bool
  | [], [] => true
  | [], _ :: _ => false
  | _ :: _, [] => false
  | s :: t, s' :: t' => eqS s s' && eqL t t'
end
theorem eq_iff : (∀ s s', eqS s s' = true ↔ s = s') ∧ ∀ l l', eqL l l' = true ↔ l = l' := by
  refine st_ind (fun k n r a b hb s' => ?_) (fun l' => ?_) (fun s t hs ht l' => ?_)
  · obtain ⟨k', n', r', a', b'⟩ := s'
    show (decide (k = k') && decide (n = n') && decide (r = r') && decide (a = a') && eqL b b') = true ↔ _
    simp only [Bool.and_eq_true, decide_eq_true_eq, hb, St.mk.injEq, and_assoc]
  · cases l' with
    | nil => exact ⟨fun _ => rfl, fun _ => rfl⟩
    | cons s' t' => exact ⟨fun e => (by cases e), fun e => (by cases e)⟩
  · cases l' with
    | nil => exact ⟨fun e => (by cases e), fun e => (by cases e)⟩
    | cons s' t' =>
      show (eqS s s' && eqL t t') = true ↔ _
      rw [Bool.and_eq_true, hs, ht, List.cons.injEq]
def eqT (A B : Tr) : Bool := decide (A.name = B.name) && (A.dir == B.dir) && eqL A.body B.body
theorem eqT_iff (A B : Tr) : eqT A B = true ↔ A = B := by
  obtain ⟨n, d, b⟩ := A
  obtain ⟨n', d', b'⟩ := B
  unfold eqT
  simp only [Bool.and_eq_true, decide_eq_true_eq, beq_iff_eq, eq_iff.2, Tr.mk.injEq, and_assoc]
theorem eqT_self (A : Tr) : eqT A A = true := (eqT_iff A A).2 rfl
theorem eqT_comm (A B : Tr) : eqT A B = eqT B A := by
  rw [Bool.eq_iff_iff, eqT_iff, eqT_iff]; exact ⟨Eq.symm, Eq.symm⟩

/-! ### P7.5 -/
theorem renE_ok {T : Tr} {a b : List UInt8} (h : renE T a b = 0) : validT T = 0 ∧ isNm a = true ∧ isNm b = true ∧ a ∈ namesT T ∧ b ∉ namesT T ∧ b ∉ clustersT T := by
  unfold renE at h
  by_cases h1 : validT T ≠ 0
  · rw [if_pos h1] at h; exact absurd h (by decide)
  · rw [if_neg h1] at h
    by_cases h2 : isNm a = false ∨ isNm b = false
    · rw [if_pos h2] at h; exact absurd h (by decide)
    · rw [if_neg h2] at h
      by_cases h3 : (namesT T).contains a = false
      · rw [if_pos h3] at h; exact absurd h (by decide)
      · rw [if_neg h3] at h
        by_cases h4 : (namesT T).contains b = true ∨ (clustersT T).contains b = true
        · rw [if_pos h4] at h; exact absurd h (by decide)
        · simp only [ne_eq, Decidable.not_not] at h1
          simp only [not_or, Bool.not_eq_false, Bool.not_eq_true] at h2 h3 h4
          refine ⟨h1, h2.1, h2.2, by simpa using h3, ?_, ?_⟩
          · have := h4.1; simpa using this
          · have := h4.2; simpa using this
theorem names_ren {T : Tr} {a b : List UInt8} (h : renE T a b = 0) : namesT (renT a b T) = (namesT T).map (mp a b) := by
  obtain ⟨hv, _, hb, _, hn, _⟩ := renE_ok h
  unfold namesT at hn ⊢
  rw [if_pos hv] at hn ⊢
  rw [if_pos (valid_ren hb hv)]
  show uniq (nmsL (preL (renL a b T.body) 0)) = _
  rw [nmsL_ren]
  unfold uniq at hn ⊢
  refine uniq_map (nmsL (preL T.body 0)) [] (fun x hx y hy e => ?_)
  have hx' : x ∈ uniq (nmsL (preL T.body 0)) := uniq_mem.2 (by simpa using hx)
  have hy' : y ∈ uniq (nmsL (preL T.body 0)) := uniq_mem.2 (by simpa using hy)
  exact mp_inj (a := a) (b := b) (fun q => hn (by rw [← q]; exact hx')) (fun q => hn (by rw [← q]; exact hy')) e
theorem clusters_ren {T : Tr} {a b : List UInt8} (h : renE T a b = 0) : clustersT (renT a b T) = clustersT T := by
  obtain ⟨hv, _, hb, _⟩ := renE_ok h
  unfold clustersT
  rw [if_pos hv, if_pos (valid_ren hb hv)]
  exact clu_ren a b T.body 0
/-- Renaming back: no error, and the tree is restored. -/
theorem back_ok {T : Tr} {a b : List UInt8} (h : renE T a b = 0) (hc : a ∉ clustersT T) : renE (renT a b T) b a = 0 ∧ renT b a (renT a b T) = T ∧ renT a b T ≠ T := by
  obtain ⟨hv, ha, hb, hm, hn, hd⟩ := renE_ok h
  have hN := names_ren h
  have hC := clusters_ren h
  have hne : b ≠ a := fun e => hn (e ▸ hm)
  have hnot : a ∉ namesT (renT a b T) := by
    rw [hN]
    intro q
    obtain ⟨x, hx, e⟩ := List.mem_map.1 q
    unfold mp at e
    by_cases c : x = a
    · rw [if_pos c] at e; exact hne e
    · rw [if_neg c] at e; exact c e
  have hin : b ∈ namesT (renT a b T) := by
    rw [hN]; exact List.mem_map.2 ⟨a, hm, by unfold mp; rw [if_pos rfl]⟩
  refine ⟨?_, ?_, fun e => hnot (by rw [e]; exact hm)⟩
  · unfold renE
    rw [if_neg (by rw [valid_ren hb hv]; simp), if_neg (by rw [ha, hb]; simp), if_neg (by simpa using hin), if_neg (by
      rw [hC]; simp only [not_or, Bool.not_eq_true]
      exact ⟨by simpa using hnot, by simpa using hc⟩)]
  · unfold namesT at hn
    rw [if_pos hv] at hn
    have hl : renL b a (renL a b T.body) = T.body := (ren_back a b).2 T.body (fun lv x hx q => by
      obtain ⟨lv', hl⟩ := pre_mem.2 T.body lv 0 x hx
      exact hn (uniq_mem.2 (List.mem_flatMap.2 ⟨(x.1, lv'), hl, q⟩)))
    show Tr.mk T.name T.dir (renL b a (renL a b T.body)) = T
    rw [hl]
/-- The two names at a place, as the statement asks. -/
theorem back_at (a b x : List UInt8) : ¬ ((x ≠ mp a b x ∧ ¬ (x = a ∧ mp a b x = b)) ∨ (x = a ∧ mp a b x ≠ b)) := by
  unfold mp
  by_cases c : x = a
  · rw [if_pos c]; simp [c]
  · rw [if_neg c]; simp [c]
end Go.Proofs.Ytgnhpjbkbefgpaa.tre
