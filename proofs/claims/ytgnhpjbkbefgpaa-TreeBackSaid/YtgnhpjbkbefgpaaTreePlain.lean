/-
  Plain facts on syntax trees (layer 7): what is valid, the names, renaming, and that renaming back restores a tree. No function of the program is named here; no condition.
-/
import Derived.Test.YtgnhpjbkbefgpaaLexPlain
namespace Go.Proofs.Ytgnhpjbkbefgpaa.tre
open lex

abbrev Pr := List UInt8 × List UInt8
/-- A statement: kind, name, refs, attributes, body. -/
inductive St where
  | mk (kind : Int) (name : List UInt8) (refs attrs : List Pr) (body : List St)
def St.kind : St → Int | .mk k _ _ _ _ => k
def St.name : St → List UInt8 | .mk _ n _ _ _ => n
def St.refs : St → List Pr | .mk _ _ r _ _ => r
def St.attrs : St → List Pr | .mk _ _ _ a _ => a
def St.body : St → List St | .mk _ _ _ _ b => b
structure Tr where
  name : List UInt8
  dir : Bool
  body : List St

/-! ### Preorder -/
mutual
def preS : St → Int → List (St × Int)
  | .mk k n r a b, lv => (.mk k n r a b, lv) :: preL b (if k = 5 then lv + 1 else lv)
def preL : List St → Int → List (St × Int)
  | [], _ => []
  | s :: t, lv => preS s lv ++ preL t lv
end
theorem preL_nil (lv : Int) : preL [] lv = [] := rfl
theorem preL_cons (s : St) (t : List St) (lv : Int) : preL (s :: t) lv = preS s lv ++ preL t lv := rfl
theorem preS_eq (s : St) (lv : Int) : preS s lv = (s, lv) :: preL s.body (if s.kind = 5 then lv + 1 else lv) := by cases s; rfl
theorem preL_app (a b : List St) (lv : Int) : preL (a ++ b) lv = preL a lv ++ preL b lv := by
  induction a with
  | nil => rfl
  | cons s t ih => rw [List.cons_append, preL_cons, preL_cons, ih, List.append_assoc]
/-! ### Induction on trees -/
theorem st_ind {P : St → Prop} {Q : List St → Prop} (hS : ∀ k n r a b, Q b → P (.mk k n r a b)) (h0 : Q []) (h1 : ∀ s t, P s → Q t → Q (s :: t)) : (∀ s, P s) ∧ ∀ l, Q l :=
  ⟨fun s => St.rec (motive_1 := P) (motive_2 := Q) (fun k n r a b hb => hS k n r a b hb) h0 (fun s t hs ht => h1 s t hs ht) s,
   fun l => St.rec_1 (motive_1 := P) (motive_2 := Q) (fun k n r a b hb => hS k n r a b hb) h0 (fun s t hs ht => h1 s t hs ht) l⟩
/-- How deep statements lie in one another. -/
def hL : Nat → List St → Bool
  | 0, l => l.isEmpty
  | d + 1, l => l.all fun s => hL d s.body
theorem pre_len : (∀ s : St, ∀ a b, (preS s a).length = (preS s b).length) ∧ ∀ l : List St, ∀ a b, (preL l a).length = (preL l b).length :=
  st_ind (fun k n r at' b hb x y => by rw [preS_eq, preS_eq, List.length_cons, List.length_cons]; exact congrArg (· + 1) (hb _ _)) (fun _ _ => rfl) (fun s t hs ht x y => by rw [preL_cons, preL_cons, List.length_append, List.length_append, hs x y, ht x y])
theorem pre_pos (s : St) (lv : Int) : 0 < (preS s lv).length := by rw [preS_eq, List.length_cons]; omega

/-! ### What the statements' guard counts -/
/-- The loop of the guard: n counted so far, at most so many, at this depth. -/
def stmL : List St → Int → Int → Int → Int
  | [], n, _, _ => n
  | .mk _ _ r a b :: t, n, most, d =>
    if most < n + 1 ∨ 40 < r.length ∨ 40 < a.length then -1
    else if (if 20 < d + 1 then -1 else stmL b 0 (most - (n + 1)) (d + 1)) < 0 then -1
    else stmL t (n + 1 + (if 20 < d + 1 then -1 else stmL b 0 (most - (n + 1)) (d + 1))) most d
def stmT (l : List St) (most d : Int) : Int := if 20 < d then -1 else stmL l 0 most d
theorem stmL_nil (n most d : Int) : stmL [] n most d = n := by rw [stmL]
theorem stmL_cons (s : St) (t : List St) (n most d : Int) : stmL (s :: t) n most d = if most < n + 1 ∨ 40 < s.refs.length ∨ 40 < s.attrs.length then -1 else if stmT s.body (most - (n + 1)) (d + 1) < 0 then -1 else stmL t (n + 1 + stmT s.body (most - (n + 1)) (d + 1)) most d := by
  cases s; rw [stmL]; rfl

/-- How many statements, at all levels. -/
def cnt (l : List St) : Nat := (preL l 0).length
theorem cnt_nil : cnt [] = 0 := rfl
theorem cnt_cons (s : St) (t : List St) : cnt (s :: t) = 1 + cnt s.body + cnt t := by
  unfold cnt
  rw [preL_cons, List.length_append, preS_eq, List.length_cons, pre_len.2 s.body _ 0]
  omega
/-- All lists of refs and attributes are short, at all levels. -/
def okL (l : List St) : Prop := ∀ x ∈ preL l 0, x.1.refs.length ≤ 40 ∧ x.1.attrs.length ≤ 40
theorem pre_mem : (∀ s : St, ∀ a b, ∀ x ∈ preS s a, ∃ lv, (x.1, lv) ∈ preS s b) ∧ ∀ l : List St, ∀ a b, ∀ x ∈ preL l a, ∃ lv, (x.1, lv) ∈ preL l b := by
  refine st_ind (fun k n r at' b hb x y z hz => ?_) (fun _ _ z hz => by cases hz) (fun s t hs ht x y z hz => ?_)
  · rw [preS_eq] at hz ⊢
    rcases List.mem_cons.1 hz with rfl | hz
    · exact ⟨y, by simp⟩
    · obtain ⟨lv, h⟩ := hb _ (if (St.mk k n r at' b).kind = 5 then y + 1 else y) z hz
      exact ⟨lv, List.mem_cons_of_mem _ h⟩
  · rw [preL_cons] at hz ⊢
    rcases List.mem_append.1 hz with hz | hz
    · obtain ⟨lv, h⟩ := hs x y z hz
      exact ⟨lv, List.mem_append_left _ h⟩
    · obtain ⟨lv, h⟩ := ht x y z hz
      exact ⟨lv, List.mem_append_right _ h⟩
theorem okL_cons {s : St} {t : List St} : okL (s :: t) ↔ (s.refs.length ≤ 40 ∧ s.attrs.length ≤ 40) ∧ okL s.body ∧ okL t := by
  constructor
  · intro h
    refine ⟨h (s, 0) (by rw [preL_cons, preS_eq]; simp), fun x hx => ?_, fun x hx => h x (by rw [preL_cons]; exact List.mem_append_right _ hx)⟩
    obtain ⟨lv, hl⟩ := pre_mem.2 s.body 0 (if s.kind = 5 then 0 + 1 else 0) x hx
    exact h (x.1, lv) (by rw [preL_cons, preS_eq]; exact List.mem_append_left _ (List.mem_cons_of_mem _ hl))
  · rintro ⟨h1, h2, h3⟩ x hx
    rw [preL_cons, preS_eq] at hx
    rcases List.mem_append.1 hx with hx | hx
    · rcases List.mem_cons.1 hx with rfl | hx
      · exact h1
      · obtain ⟨lv, hl⟩ := pre_mem.2 s.body _ 0 x hx
        exact h2 (x.1, lv) hl
    · exact h3 x hx
/-- What the guard's count says. -/
theorem stm_spec : (∀ s : St, ∀ most d, 0 ≤ stmT s.body most d → stmT s.body most d = cnt s.body ∧ (cnt s.body : Int) ≤ max 0 most ∧ okL s.body ∧ d ≤ 20) ∧
    ∀ l : List St, ∀ n most d, 0 ≤ n → 0 ≤ stmL l n most d → stmL l n most d = n + cnt l ∧ (n + cnt l ≤ max n most) ∧ okL l := by
  refine st_ind (fun k nm r a b hb most d h => ?_) (fun n most d hn h => ?_) (fun s t hs ht n most d hn h => ?_)
  · show _ ∧ _
    unfold stmT at h ⊢
    by_cases hd : 20 < d
    · rw [if_pos hd] at h; omega
    · rw [if_neg hd] at h ⊢
      obtain ⟨e1, e2, e3⟩ := hb 0 most d (Int.le_refl _) h
      exact ⟨by rw [show (St.mk k nm r a b).body = b from rfl, e1]; omega, by show (cnt b : Int) ≤ _; omega, e3, by omega⟩
  · rw [stmL_nil, cnt_nil]
    exact ⟨by omega, by omega, fun x hx => by cases hx⟩
  · rw [stmL_cons] at h ⊢
    by_cases c1 : most < n + 1 ∨ 40 < s.refs.length ∨ 40 < s.attrs.length
    · rw [if_pos c1] at h; omega
    · rw [if_neg c1] at h ⊢
      by_cases c2 : stmT s.body (most - (n + 1)) (d + 1) < 0
      · rw [if_pos c2] at h; omega
      · rw [if_neg c2] at h ⊢
        obtain ⟨e1, e2, e3, e4⟩ := hs (most - (n + 1)) (d + 1) (by omega)
        obtain ⟨f1, f2, f3⟩ := ht (n + 1 + stmT s.body (most - (n + 1)) (d + 1)) most d (by omega) h
        rw [f1, cnt_cons]
        refine ⟨by omega, by omega, okL_cons.2 ⟨⟨by omega, by omega⟩, e3, f3⟩⟩
/-- The statements' guard. -/
def few (l : List St) : Bool := decide (0 ≤ stmT l 600 0)
theorem few_spec {l : List St} (h : few l = true) : cnt l ≤ 600 ∧ okL l := by
  unfold few at h
  have h := of_decide_eq_true h
  obtain ⟨e1, e2, e3, _⟩ := stm_spec.1 (.mk 0 [] [] [] l) 600 0 h
  exact ⟨by change (cnt l : Int) ≤ max 0 600 at e2; omega, e3⟩

/-! ### What is valid -/
def wNode : List UInt8 := [110, 111, 100, 101]
def wEdge : List UInt8 := [101, 100, 103, 101]
/-- The first part of a statement's errors. -/
def fldE (s : St) : Int :=
  if s.kind < 1 ∨ 5 < s.kind then 1
  else if (s.kind = 2 ∧ s.name ≠ []) ∨ (s.kind ≠ 2 ∧ 0 < s.refs.length) ∨ (s.kind = 5 ∧ 0 < s.attrs.length) ∨ (s.kind ≠ 5 ∧ 0 < s.body.length) then 1
  else if (s.kind = 3 ∧ s.name ≠ wNode ∧ s.name ≠ wEdge) ∨ (s.kind = 2 ∧ s.refs.length < 2) then 1
  else if s.kind = 4 ∧ (s.attrs.length ≠ 1 ∨ (s.attrs.head?.map (·.1)) ≠ some []) then 1 else 0
/-- The errors of attributes behind those that were looked at. -/
def attL (k : Int) : List Pr → List Pr → Int
  | _, [] => 0
  | done, a :: t =>
    if k ≠ 4 ∧ isNm a.1 = false then 5
    else if done.any (fun x => decide (x.1 = a.1)) = true then 6
    else if 32 < a.2.length then 2
    else if a.2.all isPl = false then 7
    else attL k (done ++ [a]) t
def attE (s : St) : Int := if 16 < s.attrs.length then 2 else attL s.kind [] s.attrs
def refB (r : Pr) : Bool := isNm r.1 && (r.2.isEmpty || isNm r.2)
def staE (s : St) (lv : Int) : Int :=
  if fldE s ≠ 0 then fldE s
  else if s.kind = 5 ∧ 6 ≤ lv then 2
  else if s.kind ≠ 2 ∧ s.kind ≠ 3 ∧ isNm s.name = false then 5
  else if s.refs.all refB = false then 5
  else attE s
def firstE : List (St × Int) → Int
  | [] => 0
  | x :: t => if staE x.1 x.2 ≠ 0 then staE x.1 x.2 else firstE t
def validT (T : Tr) : Int := if isNm T.name = false then 5 else if 512 < cnt T.body then 2 else firstE (preL T.body 0)
theorem firstE_ok {l : List (St × Int)} : firstE l = 0 ↔ ∀ x ∈ l, staE x.1 x.2 = 0 := by
  induction l with
  | nil => simp [firstE]
  | cons x t ih =>
    unfold firstE
    by_cases h : staE x.1 x.2 ≠ 0
    · rw [if_pos h]; exact ⟨fun e => absurd e h, fun e => e x (by simp)⟩
    · rw [if_neg h, ih]
      simp only [ne_eq, Decidable.not_not] at h
      exact ⟨fun e y hy => by rcases List.mem_cons.1 hy with rfl | hy; exact h; exact e y hy, fun e y hy => e y (List.mem_cons_of_mem _ hy)⟩
theorem valid_iff (T : Tr) : validT T = 0 ↔ isNm T.name = true ∧ cnt T.body ≤ 512 ∧ ∀ x ∈ preL T.body 0, staE x.1 x.2 = 0 := by
  unfold validT
  by_cases h1 : isNm T.name = false
  · rw [if_pos h1]; exact ⟨fun e => absurd e (by decide), fun e => by rw [h1] at e; cases e.1⟩
  · rw [if_neg h1]
    by_cases h2 : 512 < cnt T.body
    · rw [if_pos h2]; exact ⟨fun e => absurd e (by decide), fun e => by omega⟩
    · rw [if_neg h2, firstE_ok]
      exact ⟨fun e => ⟨by simpa using h1, by omega, e⟩, fun e => e.2.2⟩

/-! ### Depth -/
def depL (l : List (St × Int)) : Int := l.foldl (fun m x => if x.1.kind = 5 then max m (x.2 + 1) else m) 0
theorem dep_le {l : List (St × Int)} (h : ∀ x ∈ l, x.1.kind = 5 → x.2 < 6) : depL l ≤ 6 := by
  unfold depL
  have key : ∀ (l : List (St × Int)) (m : Int), m ≤ 6 → (∀ x ∈ l, x.1.kind = 5 → x.2 < 6) → l.foldl (fun m x => if x.1.kind = 5 then max m (x.2 + 1) else m) m ≤ 6 := by
    intro l
    induction l with
    | nil => intro m hm _; exact hm
    | cons x t ih =>
      intro m hm hx
      rw [List.foldl_cons]
      refine ih _ ?_ (fun y hy => hx y (List.mem_cons_of_mem _ hy))
      split
      · rename_i hk; have := hx x (by simp) hk; omega
      · exact hm
  exact key l 0 (by decide) h
theorem sta_depth {s : St} {lv : Int} (h : staE s lv = 0) (hk : s.kind = 5) : lv < 6 := by
  unfold staE at h
  by_cases h1 : fldE s ≠ 0
  · rw [if_pos h1] at h; exact absurd h h1
  · rw [if_neg h1] at h
    by_cases h2 : s.kind = 5 ∧ 6 ≤ lv
    · rw [if_pos h2] at h; exact absurd h (by decide)
    · omega
theorem valid_depth {T : Tr} (h : validT T = 0) : depL (preL T.body 0) ≤ 6 := dep_le fun x hx hk => sta_depth (((valid_iff T).1 h).2.2 x hx) hk

/-! ### Names -/
def addN (out : List (List UInt8)) (x : List UInt8) : List (List UInt8) := if out.contains x then out else out ++ [x]
/-- The names of nodes that a statement mentions, in their order. -/
def nmsS (s : St) : List (List UInt8) := (if s.kind = 1 then [s.name] else []) ++ s.refs.map (·.1)
def nmsL (l : List (St × Int)) : List (List UInt8) := l.flatMap fun x => nmsS x.1
def uniq (l : List (List UInt8)) : List (List UInt8) := l.foldl addN []
def namesT (T : Tr) : List (List UInt8) := if validT T = 0 then uniq (nmsL (preL T.body 0)) else []
def cluL (l : List (St × Int)) : List (List UInt8) := l.flatMap fun x => if x.1.kind = 5 then [x.1.name] else []
def clustersT (T : Tr) : List (List UInt8) := if validT T = 0 then cluL (preL T.body 0) else []
theorem addN_mem {out : List (List UInt8)} {x y : List UInt8} : y ∈ addN out x ↔ y ∈ out ∨ y = x := by
  unfold addN
  by_cases h : out.contains x = true
  · rw [if_pos h]
    have hx : x ∈ out := by simpa using h
    exact ⟨Or.inl, fun e => by rcases e with e | rfl; exact e; exact hx⟩
  · rw [if_neg h]; simp
theorem uniq_mem {l : List (List UInt8)} {y : List UInt8} : y ∈ uniq l ↔ y ∈ l := by
  have key : ∀ (l out : List (List UInt8)), y ∈ l.foldl addN out ↔ y ∈ out ∨ y ∈ l := by
    intro l
    induction l with
    | nil => intro out; simp
    | cons x t ih => intro out; rw [List.foldl_cons, ih, addN_mem]; simp [or_assoc]
  unfold uniq; rw [key]; simp

/-! ### Renaming -/
def mp (a b x : List UInt8) : List UInt8 := if x = a then b else x
def mpR (a b : List UInt8) (r : Pr) : Pr := (mp a b r.1, r.2)
mutual
def renS (a b : List UInt8) : St → St
  | .mk k n r at' bd => .mk k (if k = 1 then mp a b n else n) (r.map (mpR a b)) at' (renL a b bd)
def renL (a b : List UInt8) : List St → List St
  | [] => []
  | s :: t => renS a b s :: renL a b t
end
def renT (a b : List UInt8) (T : Tr) : Tr := ⟨T.name, T.dir, renL a b T.body⟩
theorem renL_nil (a b : List UInt8) : renL a b [] = [] := rfl
theorem renL_cons (a b : List UInt8) (s : St) (t : List St) : renL a b (s :: t) = renS a b s :: renL a b t := rfl
theorem renS_eq (a b : List UInt8) (s : St) : renS a b s = .mk s.kind (if s.kind = 1 then mp a b s.name else s.name) (s.refs.map (mpR a b)) s.attrs (renL a b s.body) := by cases s; rfl
theorem ren_len (a b : List UInt8) (l : List St) : (renL a b l).length = l.length := by
  induction l with
  | nil => rfl
  | cons s t ih => rw [renL_cons, List.length_cons, List.length_cons, ih]
theorem ren_pre (a b : List UInt8) : (∀ s : St, ∀ lv, preS (renS a b s) lv = (preS s lv).map fun x => (renS a b x.1, x.2)) ∧ ∀ l : List St, ∀ lv, preL (renL a b l) lv = (preL l lv).map fun x => (renS a b x.1, x.2) := by
  refine st_ind (fun k n r at' bd hb lv => ?_) (fun _ => rfl) (fun s t hs ht lv => ?_)
  · rw [preS_eq, preS_eq, List.map_cons]
    exact congrArg _ (hb _)
  · rw [renL_cons, preL_cons, preL_cons, hs, ht, List.map_append]
/-- What Rename answers. -/
def renE (T : Tr) (a b : List UInt8) : Int :=
  if validT T ≠ 0 then 1
  else if isNm a = false ∨ isNm b = false then 5
  else if (namesT T).contains a = false then 15
  else if (namesT T).contains b = true ∨ (clustersT T).contains b = true then 6 else 0
end Go.Proofs.Ytgnhpjbkbefgpaa.tre
