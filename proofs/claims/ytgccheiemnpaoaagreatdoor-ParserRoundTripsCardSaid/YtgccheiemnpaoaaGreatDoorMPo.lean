/-
  Layer 8, plain: how long texts are; attributes and references as joined lists. No condition.
  Layer 9 (parser) on bytes: what Parse and ParseAttrs answer to a source; that a valid tree's text and a valid list's text are parsed to them, and that a comment and blanks around a source change nothing but an error's line (P9.3). No function of the program is named here; no condition.
  What the landed parser has to answer, as one premise, and the chapter's two examples worked out. No condition.
  Layer 9 (parser) on lists of tokens, continued: what reading leaves is the end of what was there, so an error's line lies within the source. No function of the program is named here; no condition.
-/
import Derived.Test.YtgccheiemnpaoaaGreatDoorMLv
import Derived.Test.YtgccheiemnpaoaaGreatDoorRefLex2
import Derived.Test.YtgccheiemnpaoaaGreatDoorMPa
import Derived.Lib.Join
import Derived.Test.YtgccheiemnpaoaaGreatDoorMNc
import Derived.Test.YtgccheiemnpaoaaGreatDoorTrees
namespace Go.Proofs.YtgccheiemnpaoaaGreatDoor.prt
open Go.RowKit lex tre

/-- What Parse accepts has the form of a number. -/
theorem prL_form : ∀ l, (prL l).2 = 0 → numForm l := fun l h => by
  rcases parseV_ways l with e | e | ⟨n, _, _, _, e⟩
  · rw [prL_of (n := 0) (e := 4) e] at h; cases h
  · rw [prL_of (n := 0) (e := 16) e] at h; cases h
  · rw [← e]; exact fmt_form n
theorem nm_le {l : List UInt8} (h : isNm l = true) : l.length ≤ 16 := by
  unfold isNm at h
  simp only [Bool.and_eq_true, decide_eq_true_eq] at h
  exact h.1.2
theorem quo_len (v : List UInt8) : (quoL v).length ≤ 2 * v.length + 2 := by
  unfold quoL
  have := esc_len v
  simp only [List.length_cons, List.length_append, List.length_nil]
  omega
theorem val_len {v : List UInt8} (h : v.length ≤ 32) : (valS prL v).length ≤ 66 := by
  unfold valS
  have := quo_len v
  split
  · omega
  · split <;> omega
theorem attB_len {a : Pr} (h : isNm a.1 = true ∧ a.2.length ≤ 32 ∧ a.2.all isPl = true) : (attB prL a).length ≤ 83 := by
  have h1 := nm_le h.1
  have h2 := val_len h.2.1
  unfold attB
  rw [List.length_append, List.length_cons]; omega
theorem attT_len : ∀ {l : List Pr}, attOk l → (attT prL l).length ≤ 1 + 85 * l.length := by
  intro l
  induction l with
  | nil => intro _; simp [attT]
  | cons a t ih =>
    intro h
    have h1 := attB_len (h a (by simp))
    have h2 := ih (fun x hx => h x (List.mem_cons_of_mem _ hx))
    simp only [attT, List.length_cons, List.length_append]; omega
theorem attS_len {l : List Pr} (h : attOk l) : (attS prL l).length ≤ 2 + 85 * l.length := by
  cases l with
  | nil => simp [attS]
  | cons a t =>
    have h1 := attB_len (h a (by simp))
    have h2 := attT_len (fun x hx => h x (List.mem_cons_of_mem _ hx) : attOk t)
    simp only [attS, List.length_cons, List.length_append]; omega
theorem aft_len {l : List Pr} (h : attOk l) : (aft prL l).length ≤ 3 + 85 * l.length := by
  have := attS_len h
  unfold aft
  split
  · simp
  · rw [List.length_cons]; omega
theorem prtP_len {p : List UInt8} (h : p = [] ∨ isNm p = true) : (prtP p).length ≤ 17 := by
  unfold prtP
  rcases h with rfl | h
  · simp
  · have := nm_le h
    split
    · simp
    · rw [List.length_cons]; omega
theorem refT_len (d : Bool) : ∀ {l : List Pr}, refOk l → (refT d l).length ≤ 37 * l.length := by
  intro l
  induction l with
  | nil => intro _; simp [refT]
  | cons a t ih =>
    intro h
    have h1 := nm_le (h a (by simp)).1
    have h2 := prtP_len (h a (by simp)).2
    have h3 := ih (fun x hx => h x (List.mem_cons_of_mem _ hx))
    simp only [refT, List.length_cons, List.length_append]; omega
theorem refS_len (d : Bool) {l : List Pr} (h : refOk l) : (refS d l).length ≤ 37 * l.length := by
  cases l with
  | nil => simp [refS]
  | cons a t =>
    have h1 := nm_le (h a (by simp)).1
    have h2 := prtP_len (h a (by simp)).2
    have h3 := refT_len d (fun x hx => h x (List.mem_cons_of_mem _ hx) : refOk t)
    simp only [refS, List.length_cons, List.length_append]; omega

/-! ### Joined lists -/
theorem join_snoc (xs : List (List UInt8)) (y sep : List UInt8) : Lib.join (xs ++ [y]) sep = if xs.isEmpty then y else Lib.join xs sep ++ (sep ++ y) := by
  cases xs with
  | nil => rw [List.nil_append, Lib.join_one]; rfl
  | cons x r =>
    rw [List.cons_append, Lib.join_cons, Lib.join_cons]
    simp [Lib.joinTail, List.append_assoc]
theorem attT_join (pr : List UInt8 → Int × Int) (l : List Pr) : attT pr l = Lib.joinTail [44, 32] (l.map (attB pr)) ++ [93] := by
  induction l with
  | nil => rfl
  | cons a t ih => simp only [attT, ih]; simp [Lib.joinTail]
/-- Attributes, joined. -/
def attJ (l : List Pr) : List UInt8 := Lib.join (l.map (attB prL)) [44, 32]
theorem attS_join {l : List Pr} (h : l ≠ []) : attS prL l = 91 :: (attJ l ++ [93]) := by
  cases l with
  | nil => exact absurd rfl h
  | cons a t => simp only [attS, attT_join, attJ, List.map_cons, Lib.join_cons, List.append_assoc]
theorem attJ_snoc (l : List Pr) (a : Pr) : attJ (l ++ [a]) = if l.isEmpty then attB prL a else attJ l ++ ([44, 32] ++ attB prL a) := by
  unfold attJ
  rw [List.map_append, List.map_singleton, join_snoc]
  cases l <;> rfl
def arrS (d : Bool) : List UInt8 := [32, 45, if d then 62 else 45, 32]
def refX (r : Pr) : List UInt8 := r.1 ++ prtP r.2
theorem refT_join (d : Bool) (l : List Pr) : refT d l = Lib.joinTail (arrS d) (l.map refX) := by
  induction l with
  | nil => rfl
  | cons a t ih => simp only [refT, ih]; simp [Lib.joinTail, arrS, refX]
theorem refS_join (d : Bool) (l : List Pr) : refS d l = Lib.join (l.map refX) (arrS d) := by
  cases l with
  | nil => rfl
  | cons a t => simp only [refS, refT_join, List.map_cons, Lib.join_cons, refX, List.append_assoc]
theorem refS_snoc (d : Bool) (l : List Pr) (a : Pr) : refS d (l ++ [a]) = if l.isEmpty then refX a else refS d l ++ (arrS d ++ refX a) := by
  rw [refS_join, refS_join, List.map_append, List.map_singleton, join_snoc]
  cases l <;> rfl
theorem attJ_len {l : List Pr} (h : attOk l) : (attJ l).length ≤ 85 * l.length := by
  cases l with
  | nil => simp [attJ, Lib.join_nil]
  | cons a t =>
    have h1 := attS_len h
    rw [attS_join (by simp)] at h1
    simp only [List.length_cons, List.length_append, List.length_nil] at h1 ⊢; omega
theorem ok_take {l : List Pr} (h : attOk l) (k : Nat) : attOk (l.take k) := fun x hx => h x (List.mem_of_mem_take hx)
theorem rok_take {l : List Pr} (h : refOk l) (k : Nat) : refOk (l.take k) := fun x hx => h x (List.mem_of_mem_take hx)
end Go.Proofs.YtgccheiemnpaoaaGreatDoor.prt
namespace Go.Proofs.YtgccheiemnpaoaaGreatDoor.par
open Go.RowKit lex tre prt

/-! ### A line feed behind a source -/
theorem strL_lfs (s : List UInt8) : ∀ (k : Nat) (l out : List UInt8) (n : Nat), l.length ≤ k → strL (l ++ 10 :: s) out n = strL l out n := by
  intro k
  induction k with
  | zero =>
    intro l out n hk
    have : l = [] := List.length_eq_zero_iff.1 (by omega)
    subst this
    rw [List.nil_append, strL_nil, strL_lf _ _ _ (by decide)]
  | succ k ih =>
    intro l out n hk
    cases l with
    | nil => rw [List.nil_append, strL_nil, strL_lf _ _ _ (by decide)]
    | cons c t =>
      simp only [List.length_cons] at hk
      rw [List.cons_append]
      by_cases h1 : c.toNat = 10
      · rw [strL_lf _ _ _ h1, strL_lf _ _ _ h1]
      · by_cases h2 : c.toNat = 34
        · rw [strL_end _ _ _ h2, strL_end _ _ _ h2]
        · by_cases h3 : c.toNat = 92
          · cases t with
            | nil => rw [List.nil_append, strL_esc1 _ _ _ h3 (by decide), strL_esc0 _ _ h3]
            | cons d t =>
              simp only [List.length_cons] at hk
              rw [List.cons_append]
              by_cases d1 : d.toNat = 10
              · rw [strL_esc1 _ _ _ h3 d1, strL_esc1 _ _ _ h3 d1]
              · by_cases d2 : d.toNat ≠ 34 ∧ d.toNat ≠ 92
                · rw [strL_esc2 _ _ _ h3 d1 d2, strL_esc2 _ _ _ h3 d1 d2]
                · have d2' : d.toNat = 34 ∨ d.toNat = 92 := by omega
                  by_cases d3 : 32 < out.length + 1
                  · rw [strL_esc3 _ _ _ h3 d2' d3, strL_esc3 _ _ _ h3 d2' d3]
                  · rw [strL_esc4 _ _ _ h3 d2' d3, strL_esc4 _ _ _ h3 d2' d3]
                    exact ih t _ _ (by omega)
          · by_cases h4 : isPl c = true
            · by_cases h5 : 32 < out.length + 1
              · rw [strL_lim _ _ _ h2 h3 h4 h5, strL_lim _ _ _ h2 h3 h4 h5]
              · rw [strL_ok _ _ _ h2 h3 h4 h5, strL_ok _ _ _ h2 h3 h4 h5]
                exact ih t _ _ (by omega)
            · have h4' : isPl c = false := by simpa using h4
              rw [strL_bad _ _ _ h1 h4', strL_bad _ _ _ h1 h4']
section
variable (pr : List UInt8 → Int × Int)
theorem mk_lf (x : UInt8) (h : isMk [x, 10] = true) : False := by
  unfold isMk mks at h
  simp at h
theorem oneL_lfs (l s : List UInt8) (hl : l ≠ []) : oneL pr (l ++ 10 :: s) = oneL pr l := by
  have ew := wordLen_stop l s 10 (by decide)
  have en := numLen_stop l s 10 hl (by decide)
  have tw : (l ++ 10 :: s).take (wordLen l) = l.take (wordLen l) := List.take_append_of_le_length (wordLen_le l)
  have tn : (l ++ 10 :: s).take (numLen l) = l.take (numLen l) := List.take_append_of_le_length (numLen_le l)
  unfold oneL
  rw [ew, en, tw, tn]
  by_cases h1 : 0 < wordLen l
  · rw [if_pos h1, if_pos h1]
  · rw [if_neg h1, if_neg h1]
    by_cases h2 : 0 < numLen l
    · rw [if_pos h2, if_pos h2]
    · rw [if_neg h2, if_neg h2]
      cases l with
      | nil => exact absurd rfl hl
      | cons a t =>
        have eh : (a :: t ++ 10 :: s).head? = (a :: t).head? := rfl
        have et : (a :: t ++ 10 :: s).tail = (a :: t).tail ++ 10 :: s := rfl
        rw [eh, et]
        by_cases h3 : (a :: t).head? = some 34
        · rw [if_pos h3, if_pos h3, strL_lfs s t.length (a :: t).tail [] 1 (Nat.le_refl _)]
        · rw [if_neg h3, if_neg h3]
          cases t with
          | nil =>
            have n1 : ¬ (1 < ([a] ++ 10 :: s).length ∧ isMk (([a] ++ 10 :: s).take 2) = true) := fun e => mk_lf a (by simpa using e.2)
            have n2 : ¬ (1 < [a].length ∧ isMk ([a].take 2) = true) := by simp
            rw [if_neg n1, if_neg n2]
            rfl
          | cons b t =>
            rw [show ((a :: b :: t) ++ 10 :: s).take 2 = (a :: b :: t).take 2 from rfl, show ((a :: b :: t) ++ 10 :: s).take 1 = (a :: b :: t).take 1 from rfl]
            by_cases hk : isMk ((a :: b :: t).take 2) = true
            · rw [if_pos ⟨by simp, hk⟩, if_pos ⟨by simp, hk⟩]
            · have n1 : ¬ (1 < ((a :: b :: t) ++ 10 :: s).length ∧ isMk ((a :: b :: t).take 2) = true) := fun e => hk e.2
              have n2 : ¬ (1 < (a :: b :: t).length ∧ isMk ((a :: b :: t).take 2) = true) := fun e => hk e.2
              rw [if_neg n1, if_neg n2]
theorem tkz_lfs (s : List UInt8) (hs : ∀ line com, tkz pr (10 :: s) line com = ([], 0, 0)) : ∀ (m : Nat) (l : List UInt8) (line : Int) (com : Bool), l.length ≤ m → tkz pr (l ++ 10 :: s) line com = tkz pr l line com := by
  intro m
  induction m with
  | zero =>
    intro l line com hm
    have : l = [] := List.length_eq_zero_iff.1 (by omega)
    subst this
    rw [tkz_nil, List.nil_append, hs]
  | succ m ih =>
    intro l line com hm
    cases l with
    | nil => rw [tkz_nil, List.nil_append, hs]
    | cons c t =>
      simp only [List.length_cons] at hm
      rw [List.cons_append]
      by_cases h1 : c.toNat = 10
      · rw [tkz_lf pr c t _ com h1, tkz_lf pr c _ _ com h1]
        exact ih t _ _ (by omega)
      · by_cases h2 : (com || isBl c) = true
        · rw [tkz_skip pr c t _ com h1 h2, tkz_skip pr c _ _ com h1 h2]
          exact ih t _ _ (by omega)
        · simp only [Bool.or_eq_true, not_or, Bool.not_eq_true] at h2
          obtain ⟨rfl, h3⟩ := h2
          have ha := oneL_lfs pr (c :: t) s (by simp)
          rw [List.cons_append] at ha
          by_cases he : (oneL pr (c :: t)).2.2 = 0
          · obtain ⟨hn, hn2, _⟩ := oneL_len pr (c :: t) (by simp) he
            have hd : ((c :: t).drop (oneL pr (c :: t)).2.1).length ≤ m := by simp only [List.length_drop, List.length_cons]; omega
            rw [tkz_tok pr c t _ h1 h3 he, tkz_tok pr c _ _ h1 h3 (by rw [ha]; exact he), ha, ← List.cons_append, List.drop_append_of_le_length hn2, ih _ line false hd]
          · rw [tkz_err pr c t _ h1 h3 he, tkz_err pr c _ _ h1 h3 (by rw [ha]; exact he), ha]
/-- The statement's own comments around a source. -/
def wrapL (l : List UInt8) : List UInt8 := [35, 32, 123, 10] ++ (l ++ [10, 9, 35, 32, 125])
theorem tkz_wrap (l : List UInt8) : tkz pr (wrapL l) 1 false = shift 1 (tkz pr l 1 false) := by
  have hs : ∀ line com, tkz pr [10, 9, 35, 32, 125] line com = ([], 0, 0) := fun line com => by
    rw [tkz_lf pr 10 _ _ _ (by decide), tkz_skip pr 9 _ _ _ (by decide) (by decide), tkz_skip pr 35 _ _ _ (by decide) (by decide), tkz_skip pr 32 _ _ _ (by decide) (by decide), tkz_skip pr 125 _ _ _ (by decide) (by decide), tkz_nil]
  show tkz pr (35 :: 32 :: 123 :: 10 :: (l ++ [10, 9, 35, 32, 125])) 1 false = _
  rw [tkz_skip pr 35 _ _ _ (by decide) (by decide), tkz_skip pr 32 _ _ _ (by decide) (by decide), tkz_skip pr 123 _ _ _ (by decide) (by decide), tkz_lf pr 10 _ _ _ (by decide), tkz_lfs pr [9, 35, 32, 125] hs l.length l _ _ (Nat.le_refl _)]
  exact tkz_shift pr 1 l.length l 1 false (Nat.le_refl _)
end

/-! ### The answers -/
/-- The line of an error at the first of the tokens that are left. -/
def lineOf (L : List Tok) : List Tok → Int
  | t :: _ => t.line
  | [] => match L.getLast? with
    | some t => t.line
    | none => 1
def T00 : Tr := ⟨[], false, []⟩
def finA {α : Type} (z : α) (V : α → Int) (L : List Tok) : Rz α → α × Int × Int
  | .er e r => (z, lineOf L r, e)
  | .ok a _ => if V a ≠ 0 then (z, 0, V a) else (a, 0, 0)
def parA (fm : Int → List UInt8) (R : List Tok × Int × Int) : Tr × Int × Int := if R.2.2 ≠ 0 then (T00, R.2.1, R.2.2) else finA T00 validT R.1 (endR (treeR fm R.1))
def oneT (l : List Pr) : Tr := ⟨[103], false, [.mk 1 [97] [] l []]⟩
def atsA (fm : Int → List UInt8) (R : List Tok × Int × Int) : List Pr × Int × Int := if R.2.2 ≠ 0 then ([], R.2.1, R.2.2) else finA [] (fun l => validT (oneT l)) R.1 (endR (attrsR fm R.1))
section
variable {fm : Int → List UInt8} {pr : List UInt8 → Int × Int}
theorem tk0_keeps : Keeps tk0 := fun _ => ⟨rfl, rfl, rfl⟩
theorem map_ok {α : Type} {g : Tok → Tok} {x : Rz α} {a : α} (h : mapR g x = .ok a []) : x = .ok a [] := by
  cases x with
  | ok b r =>
    unfold mapR at h
    injection h with h1 h2
    rw [h1, List.map_eq_nil_iff.1 h2]
  | er e r => unfold mapR at h; cases h
/-- A valid tree's text is parsed to it. -/
theorem par_back (hc : ∀ v, (pr v).2 = 0 → fm (pr v).1 = v) (hp : ∀ l, (pr l).2 = 0 → numForm l) {T : Tr} (h : validT T = 0) : parA fm (tkz pr (txtT pr T) 1 false) = (T, 0, 0) := by
  obtain ⟨L, hL, hm⟩ := txt_E hp h 1
  rw [hL]
  have h1 : treeR fm L = .ok T [] := by
    refine map_ok (g := tk0) ?_
    rw [← tree_map tk0_keeps, hm]; exact tree_back hc h
  unfold parA
  rw [if_neg (by simp)]
  show finA T00 validT L (endR (treeR fm L)) = _
  rw [h1]
  show (if validT T ≠ 0 then _ else _) = _
  rw [if_neg (by simp [h])]
/-- A valid list's text is parsed to it, if the list is not empty. -/
theorem ats_back (hc : ∀ v, (pr v).2 = 0 → fm (pr v).1 = v) (hp : ∀ l, (pr l).2 = 0 → numForm l) {l : List Pr} (hl : l ≠ []) (h : validT (oneT l) = 0) : atsA fm (tkz pr (attS pr l) 1 false) = (l, 0, 0) := by
  obtain ⟨_, _, hv⟩ := (valid_iff _).1 h
  have hv' : vS (.mk 1 [97] [] l []) := ⟨0, fun x hx => hv x (by show x ∈ preL [.mk 1 [97] [] l []] 0; rw [preL_cons]; exact List.mem_append_left _ hx)⟩
  have hE := (E.nil (pr := pr)).attS hp (hv'.att (show (1 : Int) ≠ 4 by decide))
  rw [List.append_nil] at hE
  obtain ⟨L, hL, hm⟩ := hE 1
  change L.map tk0 = attSK pr l [] at hm
  change tkz pr (attS pr l) 1 false = _ at hL
  rw [hL]
  have h1 : attrsR fm L = .ok l [] := by
    refine map_ok (g := tk0) ?_
    rw [← attrs_map tk0_keeps, hm]; exact attS_K hc hl []
  unfold atsA
  rw [if_neg (by simp)]
  show finA [] (fun l => validT (oneT l)) L (endR (attrsR fm L)) = _
  rw [h1]
  show (if validT (oneT l) ≠ 0 then _ else _) = _
  rw [if_neg (by simp [h])]
theorem line_map {g : Tok → Tok} {k : Int} (hg : ∀ t, (g t).line = t.line + k) (L r : List Tok) : lineOf (L.map g) (r.map g) = lineOf L r + k ∨ (lineOf (L.map g) (r.map g) = 1 ∧ lineOf L r = 1) := by
  cases r with
  | cons t r => exact Or.inl (hg t)
  | nil =>
    show (match (L.map g).getLast? with | some t => t.line | none => (1 : Int)) = _ ∨ _
    rw [List.getLast?_map]
    cases hl : L.getLast? with
    | none =>
      right
      refine ⟨?_, ?_⟩
      · show (match (L.map g).getLast? with | some t => t.line | none => (1 : Int)) = 1
        rw [List.getLast?_map, hl]; rfl
      · show (match L.getLast? with | some t => t.line | none => (1 : Int)) = 1
        rw [hl]
    | some t =>
      left
      show (g t).line = (match L.getLast? with | some t => t.line | none => (1 : Int)) + k
      rw [hl]; exact hg t
/-- Errors of the grammar: a syntax error, or too many levels. -/
def Gd {α : Type} : Rz α → Prop
  | .ok _ _ => True
  | .er e _ => e = 4 ∨ e = 2
theorem Gd.bnd {α β : Type} {x : Rz α} {f : α → List Tok → Rz β} (hx : Gd x) (hf : ∀ a r, Gd (f a r)) : Gd (x.bnd f) := by
  cases x with
  | ok a r => exact hf a r
  | er e r => exact hx
theorem gd_ok {α : Type} (a : α) (r : List Tok) : Gd (.ok a r) := trivial
theorem gd_er {α : Type} (r : List Tok) : Gd (.er 4 r : Rz α) := Or.inl rfl
theorem want_gd (c : List UInt8) (l : List Tok) : Gd (wantM c l) := by unfold wantM; split; exact gd_ok _ _; exact gd_er _
theorem name_gd (l : List Tok) : Gd (nameR l) := by unfold nameR; split; exact gd_er _; split; exact gd_ok _ _; exact gd_er _
theorem val_gd (fm : Int → List UInt8) (l : List Tok) : Gd (valR fm l) := by unfold valR; split; exact gd_er _; split; exact gd_ok _ _; split; exact gd_ok _ _; exact gd_er _
theorem att_gd (fm : Int → List UInt8) (l : List Tok) : Gd (attR fm l) := (name_gd l).bnd fun _ l => (want_gd _ l).bnd fun _ l => (val_gd fm l).bnd fun _ _ => gd_ok _ _
theorem attrsF_gd (fm : Int → List UInt8) : ∀ (n : Nat) (l : List Tok), Gd (attrsF fm n l) := by
  intro n
  induction n with
  | zero => intro l; exact gd_er _
  | succ n ih => intro l; unfold attrsF; exact (att_gd fm l).bnd fun _ l => by split; exact (ih _).bnd fun _ _ => gd_ok _ _; exact (want_gd _ _).bnd fun _ _ => gd_ok _ _
theorem attrs_gd (fm : Int → List UInt8) (l : List Tok) : Gd (attrsR fm l) := (want_gd _ l).bnd fun _ l => by split; exact gd_ok _ _; exact attrsF_gd fm _ _
theorem ref_gd (l : List Tok) : Gd (refR l) := (name_gd l).bnd fun _ l => by split; exact (name_gd _).bnd fun _ _ => gd_ok _ _; exact gd_ok _ _
theorem refsF_gd (d : Bool) : ∀ (n : Nat) (l : List Tok), Gd (refsF d n l) := by
  intro n
  induction n with
  | zero => intro l; exact gd_ok _ _
  | succ n ih => intro l; unfold refsF; split; exact (ref_gd _).bnd fun _ l => (ih _).bnd fun _ _ => gd_ok _ _; exact gd_ok _ _
theorem opt_gd (fm : Int → List UInt8) (l : List Tok) : Gd (optR fm l) := by unfold optR; split; exact attrs_gd fm l; exact gd_ok _ _
theorem chain_gd (fm : Int → List UInt8) (d : Bool) (l : List Tok) : Gd (chainR fm d l) := (ref_gd l).bnd fun _ l => by
  split
  · exact (want_gd _ l).bnd fun _ l => (ref_gd l).bnd fun _ l => (refsF_gd d _ l).bnd fun _ l => (opt_gd fm l).bnd fun _ l => (want_gd _ l).bnd fun _ _ => gd_ok _ _
  · exact (opt_gd fm l).bnd fun _ l => (want_gd _ l).bnd fun _ _ => gd_ok _ _
theorem stm_gd (fm : Int → List UInt8) (d : Bool) : ∀ (n dep : Nat) (l : List Tok), Gd (stmtF fm d n dep l) ∧ Gd (stmtsF fm d n dep l) := by
  intro n
  induction n with
  | zero => intro dep l; unfold stmtF stmtsF; exact ⟨gd_er _, gd_er _⟩
  | succ n ih =>
    intro dep l
    constructor
    · unfold stmtF
      split
      · exact (attrs_gd fm _).bnd fun _ l => (want_gd _ l).bnd fun _ _ => gd_ok _ _
      · split
        · exact (attrs_gd fm _).bnd fun _ l => (want_gd _ l).bnd fun _ _ => gd_ok _ _
        · split
          · exact (name_gd _).bnd fun _ l => (want_gd _ l).bnd fun _ l => (val_gd fm l).bnd fun _ l => (want_gd _ l).bnd fun _ _ => gd_ok _ _
          · split
            · refine (name_gd _).bnd fun _ l => ?_
              split
              · exact Or.inr rfl
              · exact (want_gd _ l).bnd fun _ l => (ih _ l).2.bnd fun _ _ => gd_ok _ _
            · exact chain_gd fm d l
    · unfold stmtsF
      split
      · exact gd_ok _ _
      · exact (ih _ _).1.bnd fun _ l => (ih _ l).2.bnd fun _ _ => gd_ok _ _
theorem tree_gd (fm : Int → List UInt8) (l : List Tok) : Gd (treeR fm l) := by
  unfold treeR
  split
  · exact (name_gd _).bnd fun _ l => (want_gd _ l).bnd fun _ l => (stm_gd fm _ _ _ l).2.bnd fun _ _ => gd_ok _ _
  · exact gd_er _
theorem Gd.endR {α : Type} {x : Rz α} (h : Gd x) : Gd (endR x) := h.bnd fun _ l => by split; exact gd_ok _ _; exact gd_er _
/-- Comments and blanks around a source. -/
theorem par_wrap (l : List UInt8) {T T' : Tr} {n e n' e' : Int} (h : parA fm (tkz pr l 1 false) = (T, n, e)) (h' : parA fm (tkz pr (wrapL l) 1 false) = (T', n', e')) :
    e' = e ∧ (e ≠ 0 → T = T00 ∧ (n' = 0 ∨ n' = n + 1 ∨ (n' = 1 ∧ n = 1))) ∧ (e = 0 → T' = T ∧ n' = 0 ∧ validT T = 0) := by
  rw [tkz_wrap] at h'
  obtain ⟨L, l0, e0, ht⟩ : ∃ L l0 e0, tkz pr l 1 false = (L, l0, e0) := ⟨_, _, _, rfl⟩
  rw [ht] at h h'
  have hg : Keeps (fun t : Tok => { t with line := t.line + 1 }) := fun _ => ⟨rfl, rfl, rfl⟩
  unfold parA at h
  unfold parA lex.shift at h'
  simp only at h h'
  by_cases he : e0 ≠ 0
  · rw [if_pos he] at h
    rw [if_pos he, if_pos he] at h'
    simp only [Prod.mk.injEq] at h h'
    obtain ⟨rfl, rfl, rfl⟩ := h
    obtain ⟨rfl, rfl, rfl⟩ := h'
    exact ⟨rfl, fun _ => ⟨rfl, Or.inr (Or.inl rfl)⟩, fun q => absurd q he⟩
  · rw [if_neg he] at h h'
    rw [tree_map hg, end_map] at h'
    cases hx : endR (treeR fm L) with
    | ok a r =>
      rw [hx] at h h'
      change (if validT a ≠ 0 then (T00, 0, validT a) else (a, 0, 0)) = _ at h
      change (if validT a ≠ 0 then (T00, 0, validT a) else (a, 0, 0)) = _ at h'
      by_cases hv : validT a ≠ 0
      · rw [if_pos hv] at h h'
        simp only [Prod.mk.injEq] at h h'
        obtain ⟨rfl, rfl, rfl⟩ := h
        obtain ⟨rfl, rfl, rfl⟩ := h'
        exact ⟨rfl, fun _ => ⟨rfl, Or.inl rfl⟩, fun q => absurd q hv⟩
      · rw [if_neg hv] at h h'
        simp only [Prod.mk.injEq] at h h'
        obtain ⟨rfl, rfl, rfl⟩ := h
        obtain ⟨rfl, rfl, rfl⟩ := h'
        exact ⟨rfl, fun q => absurd rfl q, fun _ => ⟨rfl, rfl, Decidable.not_not.1 hv⟩⟩
    | er e1 r =>
      rw [hx] at h h'
      change (T00, lineOf L r, e1) = _ at h
      change (T00, lineOf _ _, e1) = _ at h'
      simp only [Prod.mk.injEq] at h h'
      obtain ⟨rfl, rfl, rfl⟩ := h
      obtain ⟨rfl, rfl, rfl⟩ := h'
      refine ⟨rfl, fun _ => ⟨rfl, Or.inr ?_⟩, fun q => ?_⟩
      · exact line_map (g := fun t : Tok => { t with line := t.line + 1 }) (fun _ => rfl) L r
      · have hgd := (tree_gd fm L).endR
        rw [hx] at hgd
        rcases hgd with rfl | rfl <;> cases q
end
end Go.Proofs.YtgccheiemnpaoaaGreatDoor.par
namespace Go.Proofs.YtgccheiemnpaoaaGreatDoor.par
open Go.RowKit lex tre prt

/-- What Parse and ParseAttrs answer to a source. -/
def parE (l : List UInt8) : Tr × Int × Int := parA fmtL (tokE l)
def atsE (l : List UInt8) : List Pr × Int × Int := atsA fmtL (tokE l)
def ParOut (T : Tr) (n e : Int) (w : World) (E : Ending) (w' : World) : Prop := ∃ v, E = .returned (.tuple #[v, .int .i64 n, .int .i64 e]) ∧ TrV w' v T ∧ Below w.heap.size w w'
def AtsOut (l : List Pr) (n e : Int) (w : World) (E : Ending) (w' : World) : Prop := ∃ v, E = .returned (.tuple #[v, .int .i64 n, .int .i64 e]) ∧ Prs w' v l ∧ Below w.heap.size w w'
structure ParOk : Prop where
  parse : ∀ (s : ByteArray) (T : Tr) (n e : Int) (w : World), s.size ≤ maxLen → Hid (Tab w) → Hid (parE s.data.toList = (T, n, e)) → Calls Tryz.prog 10 #[.string s] w (ParOut T n e w)
  attrs : ∀ (s : ByteArray) (l : List Pr) (n e : Int) (w : World), s.size ≤ maxLen → Hid (Tab w) → Hid (atsE s.data.toList = (l, n, e)) → Calls Tryz.prog 13 #[.string s] w (AtsOut l n e w)
section
variable (pr : List UInt8 → Int × Int)
/-- The tokens of a source, by fuel: this one the kernel computes. -/
def tkzF : Nat → List UInt8 → Int → Bool → List Tok × Int × Int
  | 0, _, _, _ => ([], 0, 0)
  | _ + 1, [], _, _ => ([], 0, 0)
  | n + 1, c :: t, line, com =>
    if c.toNat = 10 then tkzF n t (line + 1) false
    else if com || isBl c then tkzF n t line (com || decide (c.toNat = 35))
    else
      if (oneL pr (c :: t)).2.2 ≠ 0 then ([], line, (oneL pr (c :: t)).2.2)
      else
        if (tkzF n (t.drop ((oneL pr (c :: t)).2.1 - 1)) line false).2.2 ≠ 0 then ([], (tkzF n (t.drop ((oneL pr (c :: t)).2.1 - 1)) line false).2.1, (tkzF n (t.drop ((oneL pr (c :: t)).2.1 - 1)) line false).2.2)
        else ({ (oneL pr (c :: t)).1 with line := line } :: (tkzF n (t.drop ((oneL pr (c :: t)).2.1 - 1)) line false).1, 0, 0)
theorem tkzF_eq : ∀ (n : Nat) (l : List UInt8) (line : Int) (com : Bool), l.length ≤ n → tkz pr l line com = tkzF pr n l line com := by
  intro n
  induction n with
  | zero =>
    intro l line com h
    have : l = [] := List.length_eq_zero_iff.1 (by omega)
    subst this
    rw [tkz_nil]; rfl
  | succ n ih =>
    intro l line com h
    cases l with
    | nil => rw [tkz_nil]; rfl
    | cons c t =>
      simp only [List.length_cons] at h
      rw [tkz, ih t _ _ (by omega), ih t _ _ (by omega), ih (t.drop _) _ _ (by rw [List.length_drop]; omega)]
      rfl
end
/-- The first example's tree. -/
def exT1 : Tr := ⟨[103], true, [.mk 2 [] [([97], [112]), ([98], []), ([99], [])] [([119, 101, 105, 103, 104, 116], [50])] []]⟩
theorem ex_one : parE [100, 105, 103, 114, 97, 112, 104, 32, 103, 32, 123, 32, 97, 58, 112, 32, 45, 62, 32, 98, 32, 45, 62, 32, 99, 32, 91, 119, 101, 105, 103, 104, 116, 61, 50, 93, 59, 32, 125] = (exT1, 0, 0) := by
  unfold parE
  rw [tokE_small (by decide), tkzF_eq prL 60 _ _ _ (by decide)]
  kernel_rfl
theorem ex_two : parE [103, 114, 97, 112, 104, 32, 103, 32, 123, 32, 97, 32, 45, 62, 32, 98, 59, 32, 125] = (T00, 1, 4) := by
  unfold parE
  rw [tokE_small (by decide), tkzF_eq prL 60 _ _ _ (by decide)]
  kernel_rfl
end Go.Proofs.YtgccheiemnpaoaaGreatDoor.par
namespace Go.Proofs.YtgccheiemnpaoaaGreatDoor.par
open Go.RowKit lex tre prt

theorem tkz_lines (pr : List UInt8 → Int × Int) : ∀ (m : Nat) (l : List UInt8) (line : Int) (com : Bool), l.length ≤ m → (∀ t ∈ (tkz pr l line com).1, line ≤ t.line ∧ t.line ≤ line + l.length) ∧ ((tkz pr l line com).2.2 ≠ 0 → line ≤ (tkz pr l line com).2.1 ∧ (tkz pr l line com).2.1 ≤ line + l.length) := by
  intro m
  induction m with
  | zero =>
    intro l line com hm
    have : l = [] := List.length_eq_zero_iff.1 (by omega)
    subst this
    rw [tkz_nil]; exact ⟨fun t ht => (by cases ht), fun h => absurd rfl h⟩
  | succ m ih =>
    intro l line com hm
    cases l with
    | nil => rw [tkz_nil]; exact ⟨fun t ht => (by cases ht), fun h => absurd rfl h⟩
    | cons c t =>
      simp only [List.length_cons] at hm ⊢
      by_cases h1 : c.toNat = 10
      · rw [tkz_lf pr c t _ com h1]
        obtain ⟨a, b⟩ := ih t (line + 1) false (by omega)
        exact ⟨fun u hu => (by have := a u hu; omega), fun h => by have := b h; omega⟩
      · by_cases h2 : (com || isBl c) = true
        · rw [tkz_skip pr c t _ com h1 h2]
          obtain ⟨a, b⟩ := ih t line (com || decide (c.toNat = 35)) (by omega)
          exact ⟨fun u hu => (by have := a u hu; omega), fun h => by have := b h; omega⟩
        · simp only [Bool.or_eq_true, not_or, Bool.not_eq_true] at h2
          obtain ⟨rfl, h3⟩ := h2
          by_cases he : (oneL pr (c :: t)).2.2 = 0
          · have hn := (oneL_len pr (c :: t) (by simp) he).1
            have hd : ((c :: t).drop (oneL pr (c :: t)).2.1).length ≤ t.length := by simp only [List.length_drop, List.length_cons]; omega
            obtain ⟨a, b⟩ := ih ((c :: t).drop (oneL pr (c :: t)).2.1) line false (by omega)
            rw [tkz_tok pr c t _ h1 h3 he]
            unfold comb
            split
            · rename_i hx
              exact ⟨fun u hu => (by cases hu), fun h => by have := b h; dsimp only; omega⟩
            · refine ⟨fun u hu => ?_, fun h => absurd rfl h⟩
              rcases List.mem_cons.1 hu with rfl | hu
              · simp only; omega
              · have := a u hu; omega
          · rw [tkz_err pr c t _ h1 h3 he]; exact ⟨fun u hu => (by cases hu), fun h => by dsimp only; omega⟩
/-- The tokens two lines down. -/
def down (l : List lex.Tok) : List lex.Tok := l.map fun t => { t with line := t.line + 2 }
/-- What is left is the end of what was there. -/
def Sf {α : Type} (l : List Tok) : Rz α → Prop
  | .ok _ r => r <:+ l
  | .er _ r => r <:+ l
theorem Sf.bnd {α β : Type} {l : List Tok} {x : Rz α} {f : α → List Tok → Rz β} (hx : Sf l x) (hf : ∀ a r, Sf r (f a r)) : Sf l (x.bnd f) := by
  cases x with
  | ok a r =>
    have h := hf a r
    show Sf l (f a r)
    cases hq : f a r with
    | ok b q => rw [hq] at h; exact List.IsSuffix.trans h hx
    | er e q => rw [hq] at h; exact List.IsSuffix.trans h hx
  | er e r => exact hx
theorem Sf.tail {α : Type} {l : List Tok} {x : Rz α} (h : Sf l.tail x) : Sf l x := by
  cases x with
  | ok a r => exact List.IsSuffix.trans h (List.tail_suffix l)
  | er e r => exact List.IsSuffix.trans h (List.tail_suffix l)
theorem sf_ok {α : Type} (a : α) (l : List Tok) : Sf l (.ok a l) := List.suffix_refl l
theorem sf_tl {α : Type} (a : α) (l : List Tok) : Sf l (.ok a l.tail) := List.tail_suffix l
theorem sf_er {α : Type} (e : Int) (l : List Tok) : Sf l (.er e l : Rz α) := List.suffix_refl l
section
variable {fm : Int → List UInt8}
theorem want_sf (c : List UInt8) (l : List Tok) : Sf l (wantM c l) := by unfold wantM; split; exact sf_tl _ _; exact sf_er _ _
theorem name_sf (l : List Tok) : Sf l (nameR l) := by
  cases l with
  | nil => exact sf_er _ _
  | cons t r => show Sf (t :: r) (if t.kind = 1 then .ok t.text r else .er 4 (t :: r)); split; exact sf_tl _ (t :: r); exact sf_er _ _
theorem val_sf (l : List Tok) : Sf l (valR fm l) := by
  cases l with
  | nil => exact sf_er _ _
  | cons t r =>
    show Sf (t :: r) (if t.kind = 1 ∨ t.kind = 4 then .ok t.text r else if t.kind = 3 then .ok (fm t.num) r else .er 4 (t :: r))
    split
    · exact sf_tl _ (t :: r)
    · split
      · exact sf_tl _ (t :: r)
      · exact sf_er _ _
theorem att_sf (l : List Tok) : Sf l (attR fm l) := (name_sf l).bnd fun _ l => (want_sf _ l).bnd fun _ l => (val_sf l).bnd fun _ l => sf_ok _ l
theorem attrsF_sf : ∀ (n : Nat) (l : List Tok), Sf l (attrsF fm n l) := by
  intro n
  induction n with
  | zero => intro l; exact sf_er _ _
  | succ n ih =>
    intro l; unfold attrsF
    refine (att_sf l).bnd fun _ l => ?_
    split
    · exact ((ih l.tail).bnd fun _ l => sf_ok _ l).tail
    · exact (want_sf _ l).bnd fun _ l => sf_ok _ l
theorem attrs_sf (l : List Tok) : Sf l (attrsR fm l) := (want_sf _ l).bnd fun _ l => by split; exact sf_tl _ _; exact attrsF_sf _ _
theorem ref_sf (l : List Tok) : Sf l (refR l) := (name_sf l).bnd fun _ l => by
  split
  · exact ((name_sf l.tail).bnd fun _ l => sf_ok _ l).tail
  · exact sf_ok _ l
theorem refsF_sf (d : Bool) : ∀ (n : Nat) (l : List Tok), Sf l (refsF d n l) := by
  intro n
  induction n with
  | zero => intro l; exact sf_ok _ _
  | succ n ih =>
    intro l; unfold refsF
    split
    · exact ((ref_sf l.tail).bnd fun _ l => (ih l).bnd fun _ l => sf_ok _ l).tail
    · exact sf_ok _ _
theorem opt_sf (l : List Tok) : Sf l (optR fm l) := by unfold optR; split; exact attrs_sf l; exact sf_ok _ _
theorem chain_sf (d : Bool) (l : List Tok) : Sf l (chainR fm d l) := (ref_sf l).bnd fun _ l => by
  split
  · exact (want_sf _ l).bnd fun _ l => (ref_sf l).bnd fun _ l => (refsF_sf d _ l).bnd fun _ l => (opt_sf l).bnd fun _ l => (want_sf _ l).bnd fun _ l => sf_ok _ l
  · exact (opt_sf l).bnd fun _ l => (want_sf _ l).bnd fun _ l => sf_ok _ l
theorem stm_sf (d : Bool) : ∀ (n dep : Nat) (l : List Tok), Sf l (stmtF fm d n dep l) ∧ Sf l (stmtsF fm d n dep l) := by
  intro n
  induction n with
  | zero => intro dep l; unfold stmtF stmtsF; exact ⟨sf_er _ _, sf_er _ _⟩
  | succ n ih =>
    intro dep l
    constructor
    · unfold stmtF
      split
      · exact ((attrs_sf l.tail).bnd fun _ l => (want_sf _ l).bnd fun _ l => sf_ok _ l).tail
      · split
        · exact ((attrs_sf l.tail).bnd fun _ l => (want_sf _ l).bnd fun _ l => sf_ok _ l).tail
        · split
          · exact ((name_sf l.tail).bnd fun _ l => (want_sf _ l).bnd fun _ l => (val_sf l).bnd fun _ l => (want_sf _ l).bnd fun _ l => sf_ok _ l).tail
          · split
            · refine Sf.tail ((name_sf l.tail).bnd fun _ l => ?_)
              split
              · exact sf_er _ _
              · exact (want_sf _ l).bnd fun _ l => (ih _ l).2.bnd fun _ l => sf_ok _ l
            · exact chain_sf d l
    · unfold stmtsF
      split
      · exact sf_tl _ _
      · exact (ih _ l).1.bnd fun _ l => (ih _ l).2.bnd fun _ l => sf_ok _ l
theorem tree_sf (l : List Tok) : Sf l (treeR fm l) := by
  unfold treeR
  split
  · exact ((name_sf l.tail).bnd fun _ l => (want_sf _ l).bnd fun _ l => (stm_sf _ _ _ l).2.bnd fun _ l => sf_ok _ l).tail
  · exact sf_er _ _
theorem Sf.endR {α : Type} {l : List Tok} {x : Rz α} (h : Sf l x) : Sf l (endR x) := h.bnd fun _ l => by split; exact sf_ok _ _; exact sf_er _ _
end
theorem lineOf_le {L r : List Tok} {m : Int} (hm : 1 ≤ m) (hs : r <:+ L) (h : ∀ t ∈ L, 1 ≤ t.line ∧ t.line ≤ m) : 1 ≤ lineOf L r ∧ lineOf L r ≤ m := by
  cases r with
  | cons t r => exact h t (hs.subset (by simp))
  | nil =>
    show 1 ≤ (match L.getLast? with | some t => t.line | none => (1 : Int)) ∧ (match L.getLast? with | some t => t.line | none => (1 : Int)) ≤ m
    cases hl : L.getLast? with
    | none => exact ⟨by decide, hm⟩
    | some t => exact h t (List.mem_of_getLast? hl)
/-- An error's line lies within the source. -/
theorem fin_line {α : Type} (z : α) (V : α → Int) (L : List Tok) (x : Rz α) (hs : Sf L x) {m : Int} (hm : 1 ≤ m) (h : ∀ t ∈ L, 1 ≤ t.line ∧ t.line ≤ m) : 0 ≤ (finA z V L x).2.1 ∧ (finA z V L x).2.1 ≤ m := by
  cases x with
  | ok a r =>
    show 0 ≤ (if V a ≠ 0 then (z, (0 : Int), V a) else (a, 0, 0)).2.1 ∧ (if V a ≠ 0 then (z, (0 : Int), V a) else (a, 0, 0)).2.1 ≤ m
    split <;> exact ⟨Int.le_refl _, by show (0 : Int) ≤ m; omega⟩
  | er e r =>
    have := lineOf_le hm hs h
    exact ⟨by show 0 ≤ lineOf L r; omega, this.2⟩
theorem par_line {l : List UInt8} (hl : l.length ≤ 16384) : 0 ≤ (parE l).2.1 ∧ (parE l).2.1 ≤ 20000 := by
  have hn := tkz_lines prL l.length l 1 false (Nat.le_refl _)
  unfold parE
  rw [tokE_small hl]
  obtain ⟨L, l0, e0, ht⟩ : ∃ L l0 e0, tkz prL l 1 false = (L, l0, e0) := ⟨_, _, _, rfl⟩
  rw [ht] at hn ⊢
  unfold parA
  by_cases he : e0 ≠ 0
  · rw [if_pos he]
    have := hn.2 he
    simp only at this ⊢
    omega
  · rw [if_neg he]
    exact fin_line T00 validT L _ (tree_sf L).endR (by decide) (fun t h => by have := hn.1 t h; omega)
end Go.Proofs.YtgccheiemnpaoaaGreatDoor.par
