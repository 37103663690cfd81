/-
  Plain facts on syntax trees (layer 7): what is valid, the names, renaming, and that renaming back restores a tree. No function of the program is named here; no condition.
  Renaming a node and back (P7.5), and equality of trees: plain facts. No function of the program is named here; no condition.
-/
import Derived.Test.YthcglcnhdgeaeaaDoorLexPlain
namespace Go.Proofs.YthcglcnhdgeaeaaDoor.tre
open lex

abbrev Pr := List UInt8 × List UInt8
/-- A statement: kind, name, refs, attributes, body. -/
inductive St where
  | mk (kind : Int) (name : List UInt8) (refs attrs : List Pr) (body : List St)
def St.kind : St → Int | .mk k _ _ _ _ => k
def St.name : St → List UInt8 | .mk _ n _ _ _ => n
def St.refs : St → List Pr | .mk _ _ r _ _ => r
def St.attrs : St → List Pr | .mk _ _ _ a _ => a
def St.body : St → List St | .mk _ _ _ _ b => b
structure Tr where
  name : List UInt8
  dir : Bool
  body : List St

/-! ### Preorder -/
mutual
def preS : St → Int → List (St × Int)
  | .mk k n r a b, lv => (.mk k n r a b, lv) :: preL b (if k = 5 then lv + 1 else lv)
def preL : List St → Int → List (St × Int)
  | [], _ => []
  | s :: t, lv => preS s lv ++ preL t lv
end
theorem preL_nil (lv : Int) : preL [] lv = [] := rfl
theorem preL_cons (s : St) (t : List St) (lv : Int) : preL (s :: t) lv = preS s lv ++ preL t lv := rfl
theorem preS_eq (s : St) (lv : Int) : preS s lv = (s, lv) :: preL s.body (if s.kind = 5 then lv + 1 else lv) := by cases s; rfl
theorem preL_app (a b : List St) (lv : Int) : preL (a ++ b) lv = preL a lv ++ preL b lv := by
  induction a with
  | nil => rfl
  | cons s t ih => rw [List.cons_append, preL_cons, preL_cons, ih, List.append_assoc]
/-! ### Induction on trees -/
theorem st_ind {P : St → Prop} {Q : List St → Prop} (hS : ∀ k n r a b, Q b → P (.mk k n r a b)) (h0 : Q []) (h1 : ∀ s t, P s → Q t → Q (s :: t)) : (∀ s, P s) ∧ ∀ l, Q l :=
  ⟨fun s => St.rec (motive_1 := P) (motive_2 := Q) (fun k n r a b hb => hS k n r a b hb) h0 (fun s t hs ht => h1 s t hs ht) s,
   fun l => St.rec_1 (motive_1 := P) (motive_2 := Q) (fun k n r a b hb => hS k n r a b hb) h0 (fun s t hs ht => h1 s t hs ht) l⟩
/-- How deep statements lie in one another. -/
def hL : Nat → List St → Bool
  | 0, l => l.isEmpty
  | d + 1, l => l.all fun s => hL d s.body
theorem pre_len : (∀ s : St, ∀ a b, (preS s a).length = (preS s b).length) ∧ ∀ l : List St, ∀ a b, (preL l a).length = (preL l b).length :=
  st_ind (fun k n r at' b hb x y => by rw [preS_eq, preS_eq, List.length_cons, List.length_cons]; exact congrArg (· + 1) (hb _ _)) (fun _ _ => rfl) (fun s t hs ht x y => by rw [preL_cons, preL_cons, List.length_append, List.length_append, hs x y, ht x y])
theorem pre_pos (s : St) (lv : Int) : 0 < (preS s lv).length := by rw [preS_eq, List.length_cons]; omega

/-! ### What the statements' guard counts -/
/-- The loop of the guard: n counted so far, at most so many, at this depth. -/
def stmL : List St → Int → Int → Int → Int
  | [], n, _, _ => n
  | .mk _ _ r a b :: t, n, most, d =>
    if most < n + 1 ∨ 40 < r.length ∨ 40 < a.length then -1
    else if (if 20 < d + 1 then -1 else stmL b 0 (most - (n + 1)) (d + 1)) < 0 then -1
    else stmL t (n + 1 + (if 20 < d + 1 then -1 else stmL b 0 (most - (n + 1)) (d + 1))) most d
def stmT (l : List St) (most d : Int) : Int := if 20 < d then -1 else stmL l 0 most d
theorem stmL_nil (n most d : Int) : stmL [] n most d = n := by rw [stmL]
theorem stmL_cons (s : St) (t : List St) (n most d : Int) : stmL (s :: t) n most d = if most < n + 1 ∨ 40 < s.refs.length ∨ 40 < s.attrs.length then -1 else if stmT s.body (most - (n + 1)) (d + 1) < 0 then -1 else stmL t (n + 1 + stmT s.body (most - (n + 1)) (d + 1)) most d := by
  cases s; rw [stmL]; rfl

/-- How many statements, at all levels. -/
def cnt (l : List St) : Nat := (preL l 0).length
theorem cnt_nil : cnt [] = 0 := rfl
theorem cnt_cons (s : St) (t : List St) : cnt (s :: t) = 1 + cnt s.body + cnt t := by
  unfold cnt
  rw [preL_cons, List.length_append, preS_eq, List.length_cons, pre_len.2 s.body _ 0]
  omega
/-- All lists of refs and attributes are short, at all levels. -/
def okL (l : List St) : Prop := ∀ x ∈ preL l 0, x.1.refs.length ≤ 40 ∧ x.1.attrs.length ≤ 40
theorem pre_mem : (∀ s : St, ∀ a b, ∀ x ∈ preS s a, ∃ lv, (x.1, lv) ∈ preS s b) ∧ ∀ l : List St, ∀ a b, ∀ x ∈ preL l a, ∃ lv, (x.1, lv) ∈ preL l b := by
  refine st_ind (fun k n r at' b hb x y z hz => ?_) (fun _ _ z hz => by cases hz) (fun s t hs ht x y z hz => ?_)
  · rw [preS_eq] at hz ⊢
    rcases List.mem_cons.1 hz with rfl | hz
    · exact ⟨y, by simp⟩
    · obtain ⟨lv, h⟩ := hb _ (if (St.mk k n r at' b).kind = 5 then y + 1 else y) z hz
      exact ⟨lv, List.mem_cons_of_mem _ h⟩
  · rw [preL_cons] at hz ⊢
    rcases List.mem_append.1 hz with hz | hz
    · obtain ⟨lv, h⟩ := hs x y z hz
      exact ⟨lv, List.mem_append_left _ h⟩
    · obtain ⟨lv, h⟩ := ht x y z hz
      exact ⟨lv, List.mem_append_right _ h⟩
theorem okL_cons {s : St} {t : List St} : okL (s :: t) ↔ (s.refs.length ≤ 40 ∧ s.attrs.length ≤ 40) ∧ okL s.body ∧ okL t := by
  constructor
  · intro h
    refine ⟨h (s, 0) (by rw [preL_cons, preS_eq]; simp), fun x hx => ?_, fun x hx => h x (by rw [preL_cons]; exact List.mem_append_right _ hx)⟩
    obtain ⟨lv, hl⟩ := pre_mem.2 s.body 0 (if s.kind = 5 then 0 + 1 else 0) x hx
    exact h (x.1, lv) (by rw [preL_cons, preS_eq]; exact List.mem_append_left _ (List.mem_cons_of_mem _ hl))
  · rintro ⟨h1, h2, h3⟩ x hx
    rw [preL_cons, preS_eq] at hx
    rcases List.mem_append.1 hx with hx | hx
    · rcases List.mem_cons.1 hx with rfl | hx
      · exact h1
      · obtain ⟨lv, hl⟩ := pre_mem.2 s.body _ 0 x hx
        exact h2 (x.1, lv) hl
    · exact h3 x hx
/-- What the guard's count says. -/
theorem stm_spec : (∀ s : St, ∀ most d, 0 ≤ stmT s.body most d → stmT s.body most d = cnt s.body ∧ (cnt s.body : Int) ≤ max 0 most ∧ okL s.body ∧ d ≤ 20) ∧
    ∀ l : List St, ∀ n most d, 0 ≤ n → 0 ≤ stmL l n most d → stmL l n most d = n + cnt l ∧ (n + cnt l ≤ max n most) ∧ okL l := by
  refine st_ind (fun k nm r a b hb most d h => ?_) (fun n most d hn h => ?_) (fun s t hs ht n most d hn h => ?_)
  · show _ ∧ _
    unfold stmT at h ⊢
    by_cases hd : 20 < d
    · rw [if_pos hd] at h; omega
    · rw [if_neg hd] at h ⊢
      obtain ⟨e1, e2, e3⟩ := hb 0 most d (Int.le_refl _) h
      exact ⟨by rw [show (St.mk k nm r a b).body = b from rfl, e1]; omega, by show (cnt b : Int) ≤ _; omega, e3, by omega⟩
  · rw [stmL_nil, cnt_nil]
    exact ⟨by omega, by omega, fun x hx => by cases hx⟩
  · rw [stmL_cons] at h ⊢
    by_cases c1 : most < n + 1 ∨ 40 < s.refs.length ∨ 40 < s.attrs.length
    · rw [if_pos c1] at h; omega
    · rw [if_neg c1] at h ⊢
      by_cases c2 : stmT s.body (most - (n + 1)) (d + 1) < 0
      · rw [if_pos c2] at h; omega
      · rw [if_neg c2] at h ⊢
        obtain ⟨e1, e2, e3, e4⟩ := hs (most - (n + 1)) (d + 1) (by omega)
        obtain ⟨f1, f2, f3⟩ := ht (n + 1 + stmT s.body (most - (n + 1)) (d + 1)) most d (by omega) h
        rw [f1, cnt_cons]
        refine ⟨by omega, by omega, okL_cons.2 ⟨⟨by omega, by omega⟩, e3, f3⟩⟩
/-- The statements' guard. -/
def few (l : List St) : Bool := decide (0 ≤ stmT l 600 0)
theorem few_spec {l : List St} (h : few l = true) : cnt l ≤ 600 ∧ okL l := by
  unfold few at h
  have h := of_decide_eq_true h
  obtain ⟨e1, e2, e3, _⟩ := stm_spec.1 (.mk 0 [] [] [] l) 600 0 h
  exact ⟨by change (cnt l : Int) ≤ max 0 600 at e2; omega, e3⟩

/-! ### What is valid -/
def wNode : List UInt8 := [110, 111, 100, 101]
def wEdge : List UInt8 := [101, 100, 103, 101]
/-- The first part of a statement's errors. -/
def fldE (s : St) : Int :=
  if s.kind < 1 ∨ 5 < s.kind then 1
  else if (s.kind = 2 ∧ s.name ≠ []) ∨ (s.kind ≠ 2 ∧ 0 < s.refs.length) ∨ (s.kind = 5 ∧ 0 < s.attrs.length) ∨ (s.kind ≠ 5 ∧ 0 < s.body.length) then 1
  else if (s.kind = 3 ∧ s.name ≠ wNode ∧ s.name ≠ wEdge) ∨ (s.kind = 2 ∧ s.refs.length < 2) then 1
  else if s.kind = 4 ∧ (s.attrs.length ≠ 1 ∨ (s.attrs.head?.map (·.1)) ≠ some []) then 1 else 0
/-- The errors of attributes behind those that were looked at. -/
def attL (k : Int) : List Pr → List Pr → Int
  | _, [] => 0
  | done, a :: t =>
    if k ≠ 4 ∧ isNm a.1 = false then 5
    else if done.any (fun x => decide (x.1 = a.1)) = true then 6
    else if 32 < a.2.length then 2
    else if a.2.all isPl = false then 7
    else attL k (done ++ [a]) t
def attE (s : St) : Int := if 16 < s.attrs.length then 2 else attL s.kind [] s.attrs
def refB (r : Pr) : Bool := isNm r.1 && (r.2.isEmpty || isNm r.2)
def staE (s : St) (lv : Int) : Int :=
  if fldE s ≠ 0 then fldE s
  else if s.kind = 5 ∧ 6 ≤ lv then 2
  else if s.kind ≠ 2 ∧ s.kind ≠ 3 ∧ isNm s.name = false then 5
  else if s.refs.all refB = false then 5
  else attE s
def firstE : List (St × Int) → Int
  | [] => 0
  | x :: t => if staE x.1 x.2 ≠ 0 then staE x.1 x.2 else firstE t
def validT (T : Tr) : Int := if isNm T.name = false then 5 else if 512 < cnt T.body then 2 else firstE (preL T.body 0)
theorem firstE_ok {l : List (St × Int)} : firstE l = 0 ↔ ∀ x ∈ l, staE x.1 x.2 = 0 := by
  induction l with
  | nil => simp [firstE]
  | cons x t ih =>
    unfold firstE
    by_cases h : staE x.1 x.2 ≠ 0
    · rw [if_pos h]; exact ⟨fun e => absurd e h, fun e => e x (by simp)⟩
    · rw [if_neg h, ih]
      simp only [ne_eq, Decidable.not_not] at h
      exact ⟨fun e y hy => by rcases List.mem_cons.1 hy with rfl | hy; exact h; exact e y hy, fun e y hy => e y (List.mem_cons_of_mem _ hy)⟩
theorem valid_iff (T : Tr) : validT T = 0 ↔ isNm T.name = true ∧ cnt T.body ≤ 512 ∧ ∀ x ∈ preL T.body 0, staE x.1 x.2 = 0 := by
  unfold validT
  by_cases h1 : isNm T.name = false
  · rw [if_pos h1]; exact ⟨fun e => absurd e (by decide), fun e => by rw [h1] at e; cases e.1⟩
  · rw [if_neg h1]
    by_cases h2 : 512 < cnt T.body
    · rw [if_pos h2]; exact ⟨fun e => absurd e (by decide), fun e => by omega⟩
    · rw [if_neg h2, firstE_ok]
      exact ⟨fun e => ⟨by simpa using h1, by omega, e⟩, fun e => e.2.2⟩

/-! ### Depth -/
def depL (l : List (St × Int)) : Int := l.foldl (fun m x => if x.1.kind = 5 then max m (x.2 + 1) else m) 0
theorem dep_le {l : List (St × Int)} (h : ∀ x ∈ l, x.1.kind = 5 → x.2 < 6) : depL l ≤ 6 := by
  unfold depL
  have key : ∀ (l : List (St × Int)) (m : Int), m ≤ 6 → (∀ x ∈ l, x.1.kind = 5 → x.2 < 6) → l.foldl (fun m x => if x.1.kind = 5 then max m (x.2 + 1) else m) m ≤ 6 := by
    intro l
    induction l with
    | nil => intro m hm _; exact hm
    | cons x t ih =>
      intro m hm hx
      rw [List.foldl_cons]
      refine ih _ ?_ (fun y hy => hx y (List.mem_cons_of_mem _ hy))
      split
      · rename_i hk; have := hx x (by simp) hk; omega
      · exact hm
  exact key l 0 (by decide) h
theorem sta_depth {s : St} {lv : Int} (h : staE s lv = 0) (hk : s.kind = 5) : lv < 6 := by
  unfold staE at h
  by_cases h1 : fldE s ≠ 0
  · rw [if_pos h1] at h; exact absurd h h1
  · rw [if_neg h1] at h
    by_cases h2 : s.kind = 5 ∧ 6 ≤ lv
    · rw [if_pos h2] at h; exact absurd h (by decide)
    · omega
theorem valid_depth {T : Tr} (h : validT T = 0) : depL (preL T.body 0) ≤ 6 := dep_le fun x hx hk => sta_depth (((valid_iff T).1 h).2.2 x hx) hk

/-! ### Names -/
def addN (out : List (List UInt8)) (x : List UInt8) : List (List UInt8) := if out.contains x then out else out ++ [x]
/-- The names of nodes that a statement mentions, in their order. -/
def nmsS (s : St) : List (List UInt8) := (if s.kind = 1 then [s.name] else []) ++ s.refs.map (·.1)
def nmsL (l : List (St × Int)) : List (List UInt8) := l.flatMap fun x => nmsS x.1
def uniq (l : List (List UInt8)) : List (List UInt8) := l.foldl addN []
def namesT (T : Tr) : List (List UInt8) := if validT T = 0 then uniq (nmsL (preL T.body 0)) else []
def cluL (l : List (St × Int)) : List (List UInt8) := l.flatMap fun x => if x.1.kind = 5 then [x.1.name] else []
def clustersT (T : Tr) : List (List UInt8) := if validT T = 0 then cluL (preL T.body 0) else []
theorem addN_mem {out : List (List UInt8)} {x y : List UInt8} : y ∈ addN out x ↔ y ∈ out ∨ y = x := by
  unfold addN
  by_cases h : out.contains x = true
  · rw [if_pos h]
    have hx : x ∈ out := by simpa using h
    exact ⟨Or.inl, fun e => by rcases e with e | rfl; exact e; exact hx⟩
  · rw [if_neg h]; simp
theorem uniq_mem {l : List (List UInt8)} {y : List UInt8} : y ∈ uniq l ↔ y ∈ l := by
  have key : ∀ (l out : List (List UInt8)), y ∈ l.foldl addN out ↔ y ∈ out ∨ y ∈ l := by
    intro l
    induction l with
    | nil => intro out; simp
    | cons x t ih => intro out; rw [List.foldl_cons, ih, addN_mem]; simp [or_assoc]
  unfold uniq; rw [key]; simp

/-! ### Renaming -/
def mp (a b x : List UInt8) : List UInt8 := if x = a then b else x
def mpR (a b : List UInt8) (r : Pr) : Pr := (mp a b r.1, r.2)
mutual
def renS (a b : List UInt8) : St → St
  | .mk k n r at' bd => .mk k (if k = 1 then mp a b n else n) (r.map (mpR a b)) at' (renL a b bd)
def renL (a b : List UInt8) : List St → List St
  | [] => []
  | s :: t => renS a b s :: renL a b t
end
def renT (a b : List UInt8) (T : Tr) : Tr := ⟨T.name, T.dir, renL a b T.body⟩
theorem renL_nil (a b : List UInt8) : renL a b [] = [] := rfl
theorem renL_cons (a b : List UInt8) (s : St) (t : List St) : renL a b (s :: t) = renS a b s :: renL a b t := rfl
theorem renS_eq (a b : List UInt8) (s : St) : renS a b s = .mk s.kind (if s.kind = 1 then mp a b s.name else s.name) (s.refs.map (mpR a b)) s.attrs (renL a b s.body) := by cases s; rfl
theorem ren_len (a b : List UInt8) (l : List St) : (renL a b l).length = l.length := by
  induction l with
  | nil => rfl
  | cons s t ih => rw [renL_cons, List.length_cons, List.length_cons, ih]
theorem ren_pre (a b : List UInt8) : (∀ s : St, ∀ lv, preS (renS a b s) lv = (preS s lv).map fun x => (renS a b x.1, x.2)) ∧ ∀ l : List St, ∀ lv, preL (renL a b l) lv = (preL l lv).map fun x => (renS a b x.1, x.2) := by
  refine st_ind (fun k n r at' bd hb lv => ?_) (fun _ => rfl) (fun s t hs ht lv => ?_)
  · rw [preS_eq, preS_eq, List.map_cons]
    exact congrArg _ (hb _)
  · rw [renL_cons, preL_cons, preL_cons, hs, ht, List.map_append]
/-- What Rename answers. -/
def renE (T : Tr) (a b : List UInt8) : Int :=
  if validT T ≠ 0 then 1
  else if isNm a = false ∨ isNm b = false then 5
  else if (namesT T).contains a = false then 15
  else if (namesT T).contains b = true ∨ (clustersT T).contains b = true then 6 else 0
end Go.Proofs.YthcglcnhdgeaeaaDoor.tre
namespace Go.Proofs.YthcglcnhdgeaeaaDoor.tre
open lex

theorem stm_ren (a b : List UInt8) : (∀ s : St, ∀ most d, stmT (renS a b s).body most d = stmT s.body most d) ∧ ∀ l : List St, ∀ n most d, stmL (renL a b l) n most d = stmL l n most d := by
  refine st_ind (fun k nm r at' bd hb most d => ?_) (fun _ _ _ => rfl) (fun s t hs ht n most d => ?_)
  · rw [renS_eq]
    show stmT (renL a b bd) most d = stmT bd most d
    unfold stmT
    rw [hb]
  · rw [renL_cons, stmL_cons, stmL_cons, hs, ht]
    have e1 : (renS a b s).refs.length = s.refs.length := by rw [renS_eq]; show (s.refs.map _).length = _; rw [List.length_map]
    have e2 : (renS a b s).attrs = s.attrs := by rw [renS_eq]; rfl
    rw [e1, e2]
theorem few_ren (a b : List UInt8) (l : List St) : few (renL a b l) = few l := by
  unfold few
  have := (stm_ren a b).1 (.mk 0 [] [] [] l) 600 0
  rw [renS_eq] at this
  exact congrArg (fun x => decide (0 ≤ x)) this
theorem ren_kind (a b : List UInt8) (s : St) : (renS a b s).kind = s.kind := by rw [renS_eq]; rfl
theorem ren_name (a b : List UInt8) (s : St) : (renS a b s).name = if s.kind = 1 then mp a b s.name else s.name := by rw [renS_eq]; rfl
theorem ren_refs (a b : List UInt8) (s : St) : (renS a b s).refs = s.refs.map (mpR a b) := by rw [renS_eq]; rfl
theorem ren_attrs (a b : List UInt8) (s : St) : (renS a b s).attrs = s.attrs := by rw [renS_eq]; rfl
theorem ren_body (a b : List UInt8) (s : St) : (renS a b s).body = renL a b s.body := by rw [renS_eq]; rfl
theorem fld_ren (a b : List UInt8) (s : St) : fldE (renS a b s) = fldE s := by
  unfold fldE
  rw [ren_kind, ren_attrs, ren_body, ren_len, ren_refs, List.length_map, ren_name]
  by_cases h : s.kind = 1
  · rw [if_pos h]
    have n2 : ¬ s.kind = 2 := by omega
    have n3 : ¬ s.kind = 3 := by omega
    simp [n2, n3]
  · rw [if_neg h]
theorem mp_nm {a b x : List UInt8} (hb : isNm b = true) (hx : isNm x = true) : isNm (mp a b x) = true := by
  unfold mp; split
  · exact hb
  · exact hx
theorem sta_ren {a b : List UInt8} {s : St} {lv : Int} (hb : isNm b = true) (h : staE s lv = 0) : staE (renS a b s) lv = 0 := by
  unfold staE at h ⊢
  rw [fld_ren, ren_kind]
  by_cases h1 : fldE s ≠ 0
  · rw [if_pos h1] at h; exact absurd h h1
  · rw [if_neg h1] at h ⊢
    by_cases h2 : s.kind = 5 ∧ 6 ≤ lv
    · rw [if_pos h2] at h; exact absurd h (by decide)
    · rw [if_neg h2] at h ⊢
      by_cases h3 : s.kind ≠ 2 ∧ s.kind ≠ 3 ∧ isNm s.name = false
      · rw [if_pos h3] at h; exact absurd h (by decide)
      · rw [if_neg h3] at h
        have n3 : ¬ (s.kind ≠ 2 ∧ s.kind ≠ 3 ∧ isNm (renS a b s).name = false) := by
          rintro ⟨k2, k3, hn⟩
          have hs : isNm s.name = true := by
            cases hx : isNm s.name
            · exact absurd ⟨k2, k3, hx⟩ h3
            · rfl
          rw [ren_name] at hn
          by_cases hk : s.kind = 1
          · rw [if_pos hk, mp_nm hb hs] at hn; cases hn
          · rw [if_neg hk, hs] at hn; cases hn
        rw [if_neg n3]
        by_cases h4 : s.refs.all refB = false
        · rw [if_pos h4] at h; exact absurd h (by decide)
        · rw [if_neg h4] at h
          have n4 : ¬ (renS a b s).refs.all refB = false := by
            rw [ren_refs]
            simp only [Bool.not_eq_false] at h4 ⊢
            rw [List.all_eq_true] at h4 ⊢
            intro r hr
            obtain ⟨q, hq, rfl⟩ := List.mem_map.1 hr
            have := h4 q hq
            unfold refB mpR at *
            rw [Bool.and_eq_true] at this ⊢
            exact ⟨mp_nm hb this.1, this.2⟩
          rw [if_neg n4]
          unfold attE at h ⊢
          rw [ren_attrs, ren_kind]
          exact h
theorem cnt_ren (a b : List UInt8) (l : List St) : cnt (renL a b l) = cnt l := by unfold cnt; rw [(ren_pre a b).2, List.length_map]
theorem valid_ren {a b : List UInt8} {T : Tr} (hb : isNm b = true) (h : validT T = 0) : validT (renT a b T) = 0 := by
  obtain ⟨h1, h2, h3⟩ := (valid_iff T).1 h
  refine (valid_iff _).2 ⟨h1, by show cnt (renL a b T.body) ≤ 512; rw [cnt_ren]; exact h2, fun x hx => ?_⟩
  change x ∈ preL (renL a b T.body) 0 at hx
  rw [(ren_pre a b).2] at hx
  obtain ⟨y, hy, rfl⟩ := List.mem_map.1 hx
  exact sta_ren hb (h3 y hy)
theorem dep_ren (a b : List UInt8) (l : List St) (lv : Int) : depL (preL (renL a b l) lv) = depL (preL l lv) := by
  rw [(ren_pre a b).2]
  unfold depL
  rw [List.foldl_map]
  congr 1
  funext m x
  rw [ren_kind]
theorem nms_ren (a b : List UInt8) (s : St) : nmsS (renS a b s) = (nmsS s).map (mp a b) := by
  unfold nmsS
  rw [ren_kind, ren_name, ren_refs, List.map_append, List.map_map, List.map_map]
  by_cases h : s.kind = 1
  · rw [if_pos h, if_pos h, if_pos h]; rfl
  · rw [if_neg h, if_neg h]; rfl
theorem nmsL_ren (a b : List UInt8) (l : List St) (lv : Int) : nmsL (preL (renL a b l) lv) = (nmsL (preL l lv)).map (mp a b) := by
  rw [(ren_pre a b).2]
  unfold nmsL
  rw [List.flatMap_map, List.map_flatMap]
  congr 1
  funext x
  exact nms_ren a b x.1
theorem clu_ren (a b : List UInt8) (l : List St) (lv : Int) : cluL (preL (renL a b l) lv) = cluL (preL l lv) := by
  rw [(ren_pre a b).2]
  unfold cluL
  rw [List.flatMap_map]
  congr 1
  funext x
  rw [ren_kind, ren_name]
  by_cases h : x.1.kind = 5
  · rw [if_pos h, if_pos h, if_neg (by omega)]
  · rw [if_neg h, if_neg h]
theorem uniq_map {f : List UInt8 → List UInt8} : ∀ (l out : List (List UInt8)), (∀ x ∈ out ++ l, ∀ y ∈ out ++ l, f x = f y → x = y) → (l.map f).foldl addN (out.map f) = (l.foldl addN out).map f := by
  intro l
  induction l with
  | nil => intro out _; rfl
  | cons x t ih =>
    intro out h
    rw [List.map_cons, List.foldl_cons, List.foldl_cons]
    have e : addN (out.map f) (f x) = (addN out x).map f := by
      unfold addN
      by_cases c : x ∈ out
      · rw [if_pos (by simpa using ⟨x, c, rfl⟩), if_pos (by simpa using c)]
      · have c2 : ¬ f x ∈ out.map f := by
          intro hf
          obtain ⟨y, hy, e⟩ := List.mem_map.1 hf
          exact c (by rw [← h y (by simp [hy]) x (by simp) e]; exact hy)
        rw [if_neg (by simpa using c2), if_neg (by simpa using c), List.map_append]; rfl
    rw [e]
    refine ih _ (fun y hy z hz => h y ?_ z ?_)
    · rcases List.mem_append.1 hy with hy | hy
      · rcases addN_mem.1 hy with hy | rfl
        · simp [hy]
        · simp
      · simp [hy]
    · rcases List.mem_append.1 hz with hz | hz
      · rcases addN_mem.1 hz with hz | rfl
        · simp [hz]
        · simp
      · simp [hz]
theorem mp_inj {a b x y : List UInt8} (hx : x ≠ b) (hy : y ≠ b) (h : mp a b x = mp a b y) : x = y := by
  unfold mp at h
  by_cases c1 : x = a
  · by_cases c2 : y = a
    · rw [c1, c2]
    · rw [if_pos c1, if_neg c2] at h; exact absurd h.symm hy
  · by_cases c2 : y = a
    · rw [if_neg c1, if_pos c2] at h; exact absurd h hx
    · rw [if_neg c1, if_neg c2] at h; exact h
theorem mp_back {a b x : List UInt8} (hx : x ≠ b) : mp b a (mp a b x) = x := by
  unfold mp
  by_cases c : x = a
  · rw [if_pos c, if_pos rfl, c]
  · rw [if_neg c, if_neg hx]
/-- Where b is no node's name, renaming back restores the statements. -/
theorem ren_back (a b : List UInt8) : (∀ s : St, (∀ lv, ∀ x ∈ preS s lv, b ∉ nmsS x.1) → renS b a (renS a b s) = s) ∧ ∀ l : List St, (∀ lv, ∀ x ∈ preL l lv, b ∉ nmsS x.1) → renL b a (renL a b l) = l := by
  refine st_ind (fun k n r at' bd hb h => ?_) (fun _ => rfl) (fun s t hs ht h => ?_)
  · have h0 := h 0 (.mk k n r at' bd, 0) (by rw [preS_eq]; simp)
    have hb' := hb (fun lv x hx => by
      obtain ⟨lv', hl⟩ := pre_mem.2 bd lv (if k = 5 then 0 + 1 else 0) x hx
      exact h 0 (x.1, lv') (by rw [preS_eq]; exact List.mem_cons_of_mem _ hl))
    unfold nmsS at h0
    have hr : ∀ q ∈ r, q.1 ≠ b := fun q hq e => h0 (List.mem_append_right _ (List.mem_map.2 ⟨q, hq, e⟩))
    have hn : k = 1 → n ≠ b := fun e e2 => h0 (List.mem_append_left _ (by show b ∈ if k = 1 then [n] else []; rw [if_pos e, e2]; simp))
    rw [renS_eq, renS_eq]
    show St.mk k (if k = 1 then mp b a (if k = 1 then mp a b n else n) else (if k = 1 then mp a b n else n)) ((r.map (mpR a b)).map (mpR b a)) at' (renL b a (renL a b bd)) = _
    rw [hb', List.map_map]
    congr 1
    · by_cases e : k = 1
      · rw [if_pos e, if_pos e, mp_back (hn e)]
      · rw [if_neg e, if_neg e]
    · have : r.map (mpR b a ∘ mpR a b) = r.map id := List.map_congr_left (fun q hq => by
        show (mp b a (mp a b q.1), q.2) = q
        rw [mp_back (hr q hq)])
      rw [this, List.map_id]
  · rw [renL_cons, renL_cons, hs (fun lv x hx => h lv x (by rw [preL_cons]; exact List.mem_append_left _ hx)), ht (fun lv x hx => h lv x (by rw [preL_cons]; exact List.mem_append_right _ hx))]

/-! ### Equality -/
mutual
def eqS : St → St → Bool
  | .mk k n r a b, .mk k' n' r' a' b' => decide (k = k') && decide (n = n') && decide (r = r') && decide (a = a') && eqL b b'
def eqL : List St → List St → Bool
  | [], [] => true
  | [], _ :: _ => false
  | _ :: _, [] => false
  | s :: t, s' :: t' => eqS s s' && eqL t t'
end
theorem eq_iff : (∀ s s', eqS s s' = true ↔ s = s') ∧ ∀ l l', eqL l l' = true ↔ l = l' := by
  refine st_ind (fun k n r a b hb s' => ?_) (fun l' => ?_) (fun s t hs ht l' => ?_)
  · obtain ⟨k', n', r', a', b'⟩ := s'
    show (decide (k = k') && decide (n = n') && decide (r = r') && decide (a = a') && eqL b b') = true ↔ _
    simp only [Bool.and_eq_true, decide_eq_true_eq, hb, St.mk.injEq, and_assoc]
  · cases l' with
    | nil => exact ⟨fun _ => rfl, fun _ => rfl⟩
    | cons s' t' => exact ⟨fun e => (by cases e), fun e => (by cases e)⟩
  · cases l' with
    | nil => exact ⟨fun e => (by cases e), fun e => (by cases e)⟩
    | cons s' t' =>
      show (eqS s s' && eqL t t') = true ↔ _
      rw [Bool.and_eq_true, hs, ht, List.cons.injEq]
def eqT (A B : Tr) : Bool := decide (A.name = B.name) && (A.dir == B.dir) && eqL A.body B.body
theorem eqT_iff (A B : Tr) : eqT A B = true ↔ A = B := by
  obtain ⟨n, d, b⟩ := A
  obtain ⟨n', d', b'⟩ := B
  unfold eqT
  simp only [Bool.and_eq_true, decide_eq_true_eq, beq_iff_eq, eq_iff.2, Tr.mk.injEq, and_assoc]
theorem eqT_self (A : Tr) : eqT A A = true := (eqT_iff A A).2 rfl
theorem eqT_comm (A B : Tr) : eqT A B = eqT B A := by
  rw [Bool.eq_iff_iff, eqT_iff, eqT_iff]; exact ⟨Eq.symm, Eq.symm⟩

/-! ### P7.5 -/
theorem renE_ok {T : Tr} {a b : List UInt8} (h : renE T a b = 0) : validT T = 0 ∧ isNm a = true ∧ isNm b = true ∧ a ∈ namesT T ∧ b ∉ namesT T ∧ b ∉ clustersT T := by
  unfold renE at h
  by_cases h1 : validT T ≠ 0
  · rw [if_pos h1] at h; exact absurd h (by decide)
  · rw [if_neg h1] at h
    by_cases h2 : isNm a = false ∨ isNm b = false
    · rw [if_pos h2] at h; exact absurd h (by decide)
    · rw [if_neg h2] at h
      by_cases h3 : (namesT T).contains a = false
      · rw [if_pos h3] at h; exact absurd h (by decide)
      · rw [if_neg h3] at h
        by_cases h4 : (namesT T).contains b = true ∨ (clustersT T).contains b = true
        · rw [if_pos h4] at h; exact absurd h (by decide)
        · simp only [ne_eq, Decidable.not_not] at h1
          simp only [not_or, Bool.not_eq_false, Bool.not_eq_true] at h2 h3 h4
          refine ⟨h1, h2.1, h2.2, by simpa using h3, ?_, ?_⟩
          · have := h4.1; simpa using this
          · have := h4.2; simpa using this
theorem names_ren {T : Tr} {a b : List UInt8} (h : renE T a b = 0) : namesT (renT a b T) = (namesT T).map (mp a b) := by
  obtain ⟨hv, _, hb, _, hn, _⟩ := renE_ok h
  unfold namesT at hn ⊢
  rw [if_pos hv] at hn ⊢
  rw [if_pos (valid_ren hb hv)]
  show uniq (nmsL (preL (renL a b T.body) 0)) = _
  rw [nmsL_ren]
  unfold uniq at hn ⊢
  refine uniq_map (nmsL (preL T.body 0)) [] (fun x hx y hy e => ?_)
  have hx' : x ∈ uniq (nmsL (preL T.body 0)) := uniq_mem.2 (by simpa using hx)
  have hy' : y ∈ uniq (nmsL (preL T.body 0)) := uniq_mem.2 (by simpa using hy)
  exact mp_inj (a := a) (b := b) (fun q => hn (by rw [← q]; exact hx')) (fun q => hn (by rw [← q]; exact hy')) e
theorem clusters_ren {T : Tr} {a b : List UInt8} (h : renE T a b = 0) : clustersT (renT a b T) = clustersT T := by
  obtain ⟨hv, _, hb, _⟩ := renE_ok h
  unfold clustersT
  rw [if_pos hv, if_pos (valid_ren hb hv)]
  exact clu_ren a b T.body 0
/-- Renaming back: no error, and the tree is restored. -/
theorem back_ok {T : Tr} {a b : List UInt8} (h : renE T a b = 0) (hc : a ∉ clustersT T) : renE (renT a b T) b a = 0 ∧ renT b a (renT a b T) = T ∧ renT a b T ≠ T := by
  obtain ⟨hv, ha, hb, hm, hn, hd⟩ := renE_ok h
  have hN := names_ren h
  have hC := clusters_ren h
  have hne : b ≠ a := fun e => hn (e ▸ hm)
  have hnot : a ∉ namesT (renT a b T) := by
    rw [hN]
    intro q
    obtain ⟨x, hx, e⟩ := List.mem_map.1 q
    unfold mp at e
    by_cases c : x = a
    · rw [if_pos c] at e; exact hne e
    · rw [if_neg c] at e; exact c e
  have hin : b ∈ namesT (renT a b T) := by
    rw [hN]; exact List.mem_map.2 ⟨a, hm, by unfold mp; rw [if_pos rfl]⟩
  refine ⟨?_, ?_, fun e => hnot (by rw [e]; exact hm)⟩
  · unfold renE
    rw [if_neg (by rw [valid_ren hb hv]; simp), if_neg (by rw [ha, hb]; simp), if_neg (by simpa using hin), if_neg (by
      rw [hC]; simp only [not_or, Bool.not_eq_true]
      exact ⟨by simpa using hnot, by simpa using hc⟩)]
  · unfold namesT at hn
    rw [if_pos hv] at hn
    have hl : renL b a (renL a b T.body) = T.body := (ren_back a b).2 T.body (fun lv x hx q => by
      obtain ⟨lv', hl⟩ := pre_mem.2 T.body lv 0 x hx
      exact hn (uniq_mem.2 (List.mem_flatMap.2 ⟨(x.1, lv'), hl, q⟩)))
    show Tr.mk T.name T.dir (renL b a (renL a b T.body)) = T
    rw [hl]
/-- The two names at a place, as the statement asks. -/
theorem back_at (a b x : List UInt8) : ¬ ((x ≠ mp a b x ∧ ¬ (x = a ∧ mp a b x = b)) ∨ (x = a ∧ mp a b x ≠ b)) := by
  unfold mp
  by_cases c : x = a
  · rw [if_pos c]; simp [c]
  · rw [if_neg c]; simp [c]
end Go.Proofs.YthcglcnhdgeaeaaDoor.tre
