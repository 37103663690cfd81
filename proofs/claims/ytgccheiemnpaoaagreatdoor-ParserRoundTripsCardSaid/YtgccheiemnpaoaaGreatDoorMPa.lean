/-
  Layer 8 (printer) as lists of bytes: the text of a tree, and that different valid trees have different texts (P8.4). No function of the program is named here; no condition.
  Different valid trees have different texts (P8.4), as lists of bytes. No function of the program is named here; no condition.
  Different valid trees have different texts (P8.4): statements and trees. No function of the program is named here; no condition.
  The text of a valid tree consists of tokens (P8.3, second half), as lists of bytes. No function of the program is named here; no condition.
  The text of a valid tree: tokens, bytes and lines (P8.3), as lists of bytes. No function of the program is named here; no condition.
  The tokens of a valid tree's text, one by one (P9.3, first part), as lists of bytes. No function of the program is named here; no condition.
  Layer 9 (parser) on lists of tokens: what Parse and ParseAttrs answer, that a printed tree is parsed to itself (P9.3), and that only an error's line hangs on the tokens' lines. No function of the program is named here; no condition.
  Layer 9 (parser) on lists of tokens, continued: the tokens of a valid tree's text are read as that tree (P9.3), and tokens that differ in their lines alone are read alike. No function of the program is named here; no condition.
-/
import Derived.Test.YtgccheiemnpaoaaGreatDoorMTp
namespace Go.Proofs.YtgccheiemnpaoaaGreatDoor.prt
open lex tre

section
variable (pr : List UInt8 → Int × Int)
def valS (v : List UInt8) : List UInt8 := if isNm v = true then v else if (pr v).2 = 0 then v else quoL v
def attB (a : Pr) : List UInt8 := a.1 ++ 61 :: valS pr a.2
def attT : List Pr → List UInt8
  | [] => [93]
  | a :: t => 44 :: 32 :: (attB pr a ++ attT t)
def attS : List Pr → List UInt8
  | [] => []
  | a :: t => 91 :: (attB pr a ++ attT pr t)
def aft (l : List Pr) : List UInt8 := if l.isEmpty then [] else 32 :: attS pr l
def prtP (p : List UInt8) : List UInt8 := if p.isEmpty then [] else 58 :: p
def refT (d : Bool) : List Pr → List UInt8
  | [] => []
  | r :: t => 32 :: 45 :: (if d then 62 else 45) :: 32 :: (r.1 ++ (prtP r.2 ++ refT d t))
def refS (d : Bool) : List Pr → List UInt8
  | [] => []
  | r :: t => r.1 ++ (prtP r.2 ++ refT d t)
def wSet : List UInt8 := [115, 101, 116]
def wClu : List UInt8 := [99, 108, 117, 115, 116, 101, 114]
mutual
def stS (d : Bool) (m : Nat) : St → List UInt8
  | .mk k n r a b =>
    List.replicate m 32 ++
    (if k = 1 then n ++ (aft pr a ++ [59, 10])
    else if k = 2 then refS d r ++ (aft pr a ++ [59, 10])
    else if k = 3 then n ++ 32 :: ((if a.isEmpty then [91, 93] else attS pr a) ++ [59, 10])
    else if k = 4 then wSet ++ 32 :: (n ++ 32 :: 61 :: 32 :: (valS pr ((a.head?.map (·.2)).getD []) ++ [59, 10]))
    else wClu ++ 32 :: (n ++ 32 :: 123 :: 10 :: (stL d (m + 4) b ++ (List.replicate m 32 ++ [125, 10]))))
def stL (d : Bool) (m : Nat) : List St → List UInt8
  | [] => []
  | s :: t => stS d m s ++ stL d m t
end
def wDir (d : Bool) : List UInt8 := if d then [100, 105, 103, 114, 97, 112, 104] else [103, 114, 97, 112, 104]
def txtT (T : Tr) : List UInt8 := wDir T.dir ++ 32 :: (T.name ++ 32 :: 123 :: 10 :: (stL pr T.dir 4 T.body ++ [125, 10]))
def prtT (T : Tr) : List UInt8 := if validT T = 0 then txtT pr T else []

/-! ### Words and values are read in one way -/
theorem span_inj {p : UInt8 → Bool} : ∀ {a b s t : List UInt8} {x y : UInt8}, a.all p = true → b.all p = true → p x = false → p y = false → a ++ x :: s = b ++ y :: t → a = b ∧ x = y ∧ s = t := by
  intro a
  induction a with
  | nil =>
    intro b s t x y _ hb hx _ h
    cases b with
    | nil => simp only [List.nil_append, List.cons.injEq] at h; exact ⟨rfl, h.1, h.2⟩
    | cons c b =>
      simp only [List.nil_append, List.cons_append, List.cons.injEq] at h
      rw [List.all_cons, Bool.and_eq_true, ← h.1, hx] at hb
      cases hb.1
  | cons c a ih =>
    intro b s t x y ha hb hx hy h
    rw [List.all_cons, Bool.and_eq_true] at ha
    cases b with
    | nil =>
      simp only [List.nil_append, List.cons_append, List.cons.injEq] at h
      rw [h.1, hy] at ha
      cases ha.1
    | cons c' b =>
      rw [List.all_cons, Bool.and_eq_true] at hb
      simp only [List.cons_append, List.cons.injEq] at h
      obtain ⟨e1, e2, e3⟩ := ih ha.2 hb.2 hx hy h.2
      exact ⟨by rw [h.1, e1], e2, e3⟩
theorem nm_word {l : List UInt8} (h : isNm l = true) : l.all isWd = true ∧ l ≠ [] := by
  unfold isNm at h
  simp only [Bool.and_eq_true, Bool.not_eq_true', decide_eq_true_eq] at h
  obtain ⟨⟨⟨h1, h2⟩, _⟩, _⟩ := h
  cases l with
  | nil => cases h1
  | cons c t =>
    refine ⟨?_, by simp⟩
    rw [wordLen_cons] at h2
    by_cases hc : isLet c = true
    · rw [if_pos hc, List.length_cons] at h2
      rw [List.all_cons, Bool.and_eq_true]
      refine ⟨by unfold isWd; rw [hc]; rfl, ?_⟩
      have e := takeWhile_take isWd t
      rw [show (t.takeWhile isWd).length = t.length by omega, List.take_length] at e
      have h3 := List.all_takeWhile (p := isWd) (l := t)
      rw [← e] at h3
      exact h3
    · rw [if_neg hc] at h2; simp at h2
/-- The bytes of a value that stands without quotes. -/
def isUq (c : UInt8) : Bool := isNb c || decide (c.toNat = 45)
theorem wd_uq {c : UInt8} (h : isWd c = true) : isUq c = true := by unfold isUq isNb; rw [h]; rfl
theorem nb_uq {c : UInt8} (h : isNb c = true) : isUq c = true := by unfold isUq; rw [h]; rfl
theorem all_mono {p q : UInt8 → Bool} {l : List UInt8} (h : l.all p = true) (hpq : ∀ c, p c = true → q c = true) : l.all q = true := by
  rw [List.all_eq_true] at h ⊢; exact fun x hx => hpq x (h x hx)
theorem dgt_nb {c : UInt8} (h : isDgt c = true) : isNb c = true := by unfold isNb isWd; rw [h]; simp
theorem num_uq {l : List UInt8} (h : numForm l) : l.all isUq = true ∧ l ≠ [] := by
  obtain ⟨c, t, h1, h2, h3⟩ := h
  have ht := all_mono h2 (fun c => nb_uq)
  have hc := nb_uq (dgt_nb h1)
  rcases h3 with rfl | rfl
  · exact ⟨by rw [List.all_cons, hc, ht]; rfl, by simp⟩
  · exact ⟨by rw [List.all_cons, List.all_cons, hc, ht]; rfl, by simp⟩
theorem esc_inj : ∀ {a b s t : List UInt8}, escL a ++ 34 :: s = escL b ++ 34 :: t → a = b ∧ s = t := by
  have step : ∀ (c : UInt8) (a : List UInt8), escL (c :: a) = if c.toNat = 34 ∨ c.toNat = 92 then 92 :: c :: escL a else c :: escL a := by
    intro c a
    unfold escL
    rw [List.flatMap_cons]
    split <;> rfl
  intro a
  induction a with
  | nil =>
    intro b s t h
    cases b with
    | nil => simp only [escL, List.flatMap_nil, List.nil_append, List.cons.injEq] at h; exact ⟨rfl, h.2⟩
    | cons c b =>
      rw [step] at h
      split at h
      · simp [escL] at h
      · rename_i hc
        simp only [escL, List.flatMap_nil, List.nil_append, List.cons_append, List.cons.injEq] at h
        rw [← h.1] at hc; exact absurd (Or.inl rfl) hc
  | cons x a ih =>
    intro b s t h
    cases b with
    | nil =>
      rw [step] at h
      split at h
      · simp [escL] at h
      · rename_i hc
        simp only [escL, List.flatMap_nil, List.nil_append, List.cons_append, List.cons.injEq] at h
        rw [h.1] at hc; exact absurd (Or.inl rfl) hc
    | cons y b =>
      rw [step, step] at h
      split at h
      · rename_i hx
        split at h
        · simp only [List.cons_append, List.cons.injEq, true_and] at h
          obtain ⟨e1, e2⟩ := ih h.2
          exact ⟨by rw [h.1, e1], e2⟩
        · rename_i hy
          simp only [List.cons_append, List.cons.injEq] at h
          rw [← h.1] at hy; exact absurd (Or.inr rfl) hy
      · rename_i hx
        split at h
        · simp only [List.cons_append, List.cons.injEq] at h
          rw [h.1] at hx; exact absurd (Or.inr rfl) hx
        · simp only [List.cons_append, List.cons.injEq] at h
          obtain ⟨e1, e2⟩ := ih h.2
          exact ⟨by rw [h.1, e1], e2⟩
variable {pr}
theorem val_form (hp : ∀ l, (pr l).2 = 0 → numForm l) (v : List UInt8) : (valS pr v = v ∧ v.all isUq = true ∧ v ≠ []) ∨ valS pr v = quoL v := by
  unfold valS
  split
  · rename_i h; exact Or.inl ⟨rfl, all_mono (nm_word h).1 (fun c => wd_uq), (nm_word h).2⟩
  · split
    · rename_i h; exact Or.inl ⟨rfl, num_uq (hp v h)⟩
    · exact Or.inr rfl
theorem uq_quote {v s t : List UInt8} {x : UInt8} (h1 : v.all isUq = true) (h2 : v ≠ []) (h : v ++ x :: s = 34 :: t) : False := by
  cases v with
  | nil => exact h2 rfl
  | cons c v =>
    simp only [List.cons_append, List.cons.injEq] at h
    rw [List.all_cons, Bool.and_eq_true, h.1] at h1
    exact absurd h1.1 (by decide)
theorem val_inj (hp : ∀ l, (pr l).2 = 0 → numForm l) {v v' s s' : List UInt8} {x x' : UInt8} (hx : isUq x = false) (hx' : isUq x' = false) (h : valS pr v ++ x :: s = valS pr v' ++ x' :: s') : v = v' ∧ x = x' ∧ s = s' := by
  rcases val_form hp v with ⟨e, h1, h2⟩ | e <;> rcases val_form hp v' with ⟨e', h1', h2'⟩ | e' <;> rw [e, e'] at h
  · exact span_inj h1 h1' hx hx' h
  · exact (uq_quote h1 h2 (by rw [h]; unfold quoL; rfl)).elim
  · exact (uq_quote h1' h2' (by rw [← h]; unfold quoL; rfl)).elim
  · unfold quoL at h
    simp only [List.cons_append, List.append_assoc, List.cons.injEq, true_and, List.nil_append] at h
    obtain ⟨e1, e2⟩ := esc_inj h
    simp only [List.cons.injEq] at e2
    exact ⟨e1, e2.1, e2.2⟩
end
end Go.Proofs.YtgccheiemnpaoaaGreatDoor.prt
namespace Go.Proofs.YtgccheiemnpaoaaGreatDoor.prt
open lex tre

section
variable {pr : List UInt8 → Int × Int}
theorem attB_inj (hp : ∀ l, (pr l).2 = 0 → numForm l) {a a' : Pr} {s s' : List UInt8} {x x' : UInt8} (ha : a.1.all isWd = true) (ha' : a'.1.all isWd = true) (hx : isUq x = false) (hx' : isUq x' = false) (h : attB pr a ++ x :: s = attB pr a' ++ x' :: s') : a = a' ∧ x = x' ∧ s = s' := by
  unfold attB at h
  simp only [List.append_assoc, List.cons_append] at h
  obtain ⟨e1, -, e2⟩ := span_inj ha ha' (by decide) (by decide) h
  obtain ⟨e3, e4, e5⟩ := val_inj hp hx hx' e2
  exact ⟨Prod.ext e1 e3, e4, e5⟩
def keysW (l : List Pr) : Prop := ∀ a ∈ l, a.1.all isWd = true
/-- What follows an attribute. -/
theorem attT_head (l : List Pr) (s : List UInt8) : ∃ x u, attT pr l ++ s = x :: u ∧ isUq x = false := by
  cases l with
  | nil => exact ⟨93, s, rfl, by decide⟩
  | cons a t => exact ⟨44, _, rfl, by decide⟩
theorem attT_inj (hp : ∀ l, (pr l).2 = 0 → numForm l) : ∀ {l l' : List Pr} {s s' : List UInt8}, keysW l → keysW l' → attT pr l ++ s = attT pr l' ++ s' → l = l' ∧ s = s' := by
  intro l
  induction l with
  | nil =>
    intro l' s s' _ _ h
    cases l' with
    | nil => simp only [attT, List.cons_append, List.nil_append, List.cons.injEq, true_and] at h; exact ⟨rfl, h⟩
    | cons a' t' => simp [attT] at h
  | cons a t ih =>
    intro l' s s' hk hk' h
    cases l' with
    | nil => simp [attT] at h
    | cons a' t' =>
      simp only [attT, List.cons_append, List.append_assoc, List.cons.injEq, true_and] at h
      obtain ⟨x, u, e, hx⟩ := attT_head (pr := pr) t s
      obtain ⟨x', u', e', hx'⟩ := attT_head (pr := pr) t' s'
      rw [e, e'] at h
      obtain ⟨e1, e2, e3⟩ := attB_inj hp (hk a (by simp)) (hk' a' (by simp)) hx hx' h
      obtain ⟨e4, e5⟩ := ih (fun y hy => hk y (List.mem_cons_of_mem _ hy)) (fun y hy => hk' y (List.mem_cons_of_mem _ hy)) (by rw [e, e', e2, e3])
      exact ⟨by rw [e1, e4], e5⟩
theorem attS_inj (hp : ∀ l, (pr l).2 = 0 → numForm l) {l l' : List Pr} {s s' : List UInt8} (hn : l ≠ []) (hn' : l' ≠ []) (hk : keysW l) (hk' : keysW l') (h : attS pr l ++ s = attS pr l' ++ s') : l = l' ∧ s = s' := by
  cases l with
  | nil => exact absurd rfl hn
  | cons a t =>
    cases l' with
    | nil => exact absurd rfl hn'
    | cons a' t' =>
      simp only [attS, List.cons_append, List.append_assoc, List.cons.injEq, true_and] at h
      refine attT_inj hp (l := a :: t) (l' := a' :: t') hk hk' ?_
      simp only [attT, List.cons_append, List.append_assoc, h]
/-- Attributes behind a name, up to the semicolon. -/
theorem aft_inj (hp : ∀ l, (pr l).2 = 0 → numForm l) {l l' : List Pr} {s s' : List UInt8} (hk : keysW l) (hk' : keysW l') (h : aft pr l ++ 59 :: s = aft pr l' ++ 59 :: s') : l = l' ∧ s = s' := by
  cases l with
  | nil =>
    cases l' with
    | nil => simp only [aft, List.isEmpty_nil, if_true, List.nil_append, List.cons.injEq, true_and] at h; exact ⟨rfl, h⟩
    | cons a' t' => simp [aft] at h
  | cons a t =>
    cases l' with
    | nil => simp [aft] at h
    | cons a' t' =>
      simp only [aft, List.isEmpty_cons, Bool.false_eq_true, if_false, List.cons_append, List.cons.injEq, true_and] at h
      obtain ⟨e1, e2⟩ := attS_inj hp (by simp) (by simp) hk hk' h
      simp only [List.cons.injEq, true_and] at e2
      exact ⟨e1, e2⟩
/-- The attributes of a default, up to the semicolon. -/
theorem dft_inj (hp : ∀ l, (pr l).2 = 0 → numForm l) {l l' : List Pr} {s s' : List UInt8} (hk : keysW l) (hk' : keysW l') (h : (if l.isEmpty then [91, 93] else attS pr l) ++ 59 :: s = (if l'.isEmpty then [91, 93] else attS pr l') ++ 59 :: s') : l = l' ∧ s = s' := by
  have key : ∀ {a : Pr} {t : List Pr} {s s' : List UInt8}, a.1.all isWd = true → [91, 93] ++ 59 :: s = attS pr (a :: t) ++ 59 :: s' → False := by
    intro a t s s' ha h
    simp only [attS, attB, List.cons_append, List.nil_append, List.append_assoc, List.cons.injEq, true_and] at h
    cases hq : a.1 with
    | nil => rw [hq] at h; simp at h
    | cons c u =>
      rw [hq] at h ha
      simp only [List.cons_append, List.cons.injEq] at h
      rw [List.all_cons, Bool.and_eq_true, ← h.1] at ha
      exact absurd ha.1 (by decide)
  cases l with
  | nil =>
    cases l' with
    | nil => simp only [List.isEmpty_nil, if_true, List.cons_append, List.nil_append, List.cons.injEq, true_and] at h; exact ⟨rfl, h⟩
    | cons a' t' => exact (key (hk' a' (by simp)) h).elim
  | cons a t =>
    cases l' with
    | nil => exact (key (hk a (by simp)) h.symm).elim
    | cons a' t' =>
      simp only [List.isEmpty_cons, Bool.false_eq_true, if_false] at h
      obtain ⟨e1, e2⟩ := attS_inj hp (by simp) (by simp) hk hk' h
      simp only [List.cons.injEq, true_and] at e2
      exact ⟨e1, e2⟩

/-! ### References -/
/-- Where the references end: a semicolon, or a space and a bracket. -/
def RStop (s : List UInt8) : Prop := (∃ u, s = 59 :: u) ∨ ∃ u, s = 32 :: 91 :: u
theorem aft_stop (l : List Pr) (s : List UInt8) : RStop (aft pr l ++ 59 :: s) := by
  cases l with
  | nil => exact Or.inl ⟨s, rfl⟩
  | cons a t => exact Or.inr ⟨_, by simp only [aft, attS, List.isEmpty_cons, Bool.false_eq_true, if_false, List.cons_append]; rfl⟩
/-- Behind a port. -/
def PStop (s : List UInt8) : Prop := (∃ u, s = 59 :: u) ∨ ∃ u, s = 32 :: u
theorem refT_stop (d : Bool) (l : List Pr) {s : List UInt8} (h : RStop s) : PStop (refT d l ++ s) := by
  cases l with
  | nil =>
    rcases h with ⟨u, rfl⟩ | ⟨u, rfl⟩
    · exact Or.inl ⟨u, rfl⟩
    · exact Or.inr ⟨_, rfl⟩
  | cons r t => exact Or.inr ⟨_, rfl⟩
theorem PStop.cons {s : List UInt8} (h : PStop s) : ∃ x u, s = x :: u ∧ isWd x = false ∧ x ≠ 58 := by
  rcases h with ⟨u, rfl⟩ | ⟨u, rfl⟩
  · exact ⟨_, _, rfl, by decide, by decide⟩
  · exact ⟨_, _, rfl, by decide, by decide⟩
theorem prtP_head (p : List UInt8) {s : List UInt8} (h : PStop s) : ∃ x u, prtP p ++ s = x :: u ∧ isWd x = false := by
  cases p with
  | nil => obtain ⟨x, u, e, h1, _⟩ := h.cons; exact ⟨x, u, e, h1⟩
  | cons c p => exact ⟨58, _, rfl, by decide⟩
theorem prtP_inj {p p' s s' : List UInt8} (hw : p.all isWd = true) (hw' : p'.all isWd = true) (hs : PStop s) (hs' : PStop s') (h : prtP p ++ s = prtP p' ++ s') : p = p' ∧ s = s' := by
  obtain ⟨x, u, rfl, h1, h2⟩ := hs.cons
  obtain ⟨x', u', rfl, h1', h2'⟩ := hs'.cons
  cases p with
  | nil =>
    cases p' with
    | nil => exact ⟨rfl, h⟩
    | cons c' p' =>
      simp only [prtP, List.isEmpty_nil, List.isEmpty_cons, if_true, Bool.false_eq_true, if_false, List.nil_append, List.cons_append, List.cons.injEq] at h
      exact absurd h.1 h2
  | cons c p =>
    cases p' with
    | nil =>
      simp only [prtP, List.isEmpty_nil, List.isEmpty_cons, if_true, Bool.false_eq_true, if_false, List.nil_append, List.cons_append, List.cons.injEq] at h
      exact absurd h.1.symm h2'
    | cons c' p' =>
      simp only [prtP, List.isEmpty_cons, Bool.false_eq_true, if_false, List.cons_append, List.cons.injEq, true_and] at h
      obtain ⟨e1, e2, e3⟩ := span_inj (a := c :: p) (b := c' :: p') (s := u) (t := u') hw hw' h1 h1' (by rw [List.cons_append, List.cons_append, h.1, h.2])
      exact ⟨e1, by rw [e2, e3]⟩
def refsW (l : List Pr) : Prop := ∀ a ∈ l, a.1.all isWd = true ∧ a.2.all isWd = true
theorem refW_inj {d : Bool} {r r' : Pr} {t t' : List Pr} {s s' : List UInt8} (hr : r.1.all isWd = true ∧ r.2.all isWd = true) (hr' : r'.1.all isWd = true ∧ r'.2.all isWd = true) (hs : RStop s) (hs' : RStop s') (h : r.1 ++ (prtP r.2 ++ (refT d t ++ s)) = r'.1 ++ (prtP r'.2 ++ (refT d t' ++ s'))) : r = r' ∧ refT d t ++ s = refT d t' ++ s' := by
  obtain ⟨x, u, e, hx⟩ := prtP_head r.2 (refT_stop d t hs)
  obtain ⟨x', u', e', hx'⟩ := prtP_head r'.2 (refT_stop d t' hs')
  rw [e, e'] at h
  obtain ⟨e1, e2, e3⟩ := span_inj hr.1 hr'.1 hx hx' h
  obtain ⟨e4, e5⟩ := prtP_inj hr.2 hr'.2 (refT_stop d t hs) (refT_stop d t' hs') (by rw [e, e', e2, e3])
  exact ⟨Prod.ext e1 e4, e5⟩
theorem refT_inj (d : Bool) : ∀ {l l' : List Pr} {s s' : List UInt8}, refsW l → refsW l' → RStop s → RStop s' → refT d l ++ s = refT d l' ++ s' → l = l' ∧ s = s' := by
  have key : ∀ {r : Pr} {t : List Pr} {s s' : List UInt8}, RStop s → s = refT d (r :: t) ++ s' → False := by
    rintro r t s s' (⟨u, rfl⟩ | ⟨u, rfl⟩) h <;> simp [refT] at h
  intro l
  induction l with
  | nil =>
    intro l' s s' _ _ hs hs' h
    cases l' with
    | nil => exact ⟨rfl, h⟩
    | cons r' t' => exact (key hs h).elim
  | cons r t ih =>
    intro l' s s' hk hk' hs hs' h
    cases l' with
    | nil => exact (key hs' h.symm).elim
    | cons r' t' =>
      simp only [refT, List.cons_append, List.append_assoc, List.cons.injEq, true_and] at h
      obtain ⟨e1, e2⟩ := refW_inj (hk r (by simp)) (hk' r' (by simp)) hs hs' h
      obtain ⟨e3, e4⟩ := ih (fun y hy => hk y (List.mem_cons_of_mem _ hy)) (fun y hy => hk' y (List.mem_cons_of_mem _ hy)) hs hs' e2
      exact ⟨by rw [e1, e3], e4⟩
end
end Go.Proofs.YtgccheiemnpaoaaGreatDoor.prt
namespace Go.Proofs.YtgccheiemnpaoaaGreatDoor.prt
open lex tre

theorem attL_keys {k : Int} (hk : k ≠ 4) : ∀ {l done : List Pr}, attL k done l = 0 → ∀ a ∈ l, isNm a.1 = true := by
  intro l
  induction l with
  | nil => intro done _ a ha; simp at ha
  | cons x t ih =>
    intro done h a ha
    unfold attL at h
    by_cases h1 : k ≠ 4 ∧ isNm x.1 = false
    · rw [if_pos h1] at h; exact absurd h (by decide)
    · rw [if_neg h1] at h
      have hx : isNm x.1 = true := by
        cases e : isNm x.1
        · exact absurd ⟨hk, e⟩ h1
        · rfl
      split at h
      · exact absurd h (by decide)
      · split at h
        · exact absurd h (by decide)
        · split at h
          · exact absurd h (by decide)
          · rcases List.mem_cons.1 ha with rfl | ha
            · exact hx
            · exact ih h a ha
/-- What a valid statement looks like. -/
inductive Form : St → Prop where
  | node (n a) : isNm n = true → keysW a → Form (.mk 1 n [] a [])
  | edge (r r2 t a) : (∀ x ∈ r :: r2 :: t, isNm x.1 = true ∧ (x.2 = [] ∨ isNm x.2 = true)) → keysW a → Form (.mk 2 [] (r :: r2 :: t) a [])
  | dflt (n a) : (n = wNode ∨ n = wEdge) → keysW a → Form (.mk 3 n [] a [])
  | sset (n v) : isNm n = true → Form (.mk 4 n [] [([], v)] [])
  | clus (n b) : isNm n = true → Form (.mk 5 n [] [] b)
theorem form_of {s : St} {lv : Int} (h : staE s lv = 0) : Form s := by
  unfold staE at h
  by_cases h1 : fldE s ≠ 0
  · rw [if_pos h1] at h; exact absurd h h1
  rw [if_neg h1] at h
  by_cases h2 : s.kind = 5 ∧ 6 ≤ lv
  · rw [if_pos h2] at h; exact absurd h (by decide)
  rw [if_neg h2] at h
  by_cases h3 : s.kind ≠ 2 ∧ s.kind ≠ 3 ∧ isNm s.name = false
  · rw [if_pos h3] at h; exact absurd h (by decide)
  rw [if_neg h3] at h
  by_cases h4 : s.refs.all refB = false
  · rw [if_pos h4] at h; exact absurd h (by decide)
  rw [if_neg h4] at h
  clear h2
  simp only [ne_eq, Decidable.not_not] at h1
  unfold fldE at h1
  by_cases f1 : s.kind < 1 ∨ 5 < s.kind
  · rw [if_pos f1] at h1; exact absurd h1 (by decide)
  rw [if_neg f1] at h1
  by_cases f2 : (s.kind = 2 ∧ s.name ≠ []) ∨ (s.kind ≠ 2 ∧ 0 < s.refs.length) ∨ (s.kind = 5 ∧ 0 < s.attrs.length) ∨ (s.kind ≠ 5 ∧ 0 < s.body.length)
  · rw [if_pos f2] at h1; exact absurd h1 (by decide)
  rw [if_neg f2] at h1
  by_cases f3 : (s.kind = 3 ∧ s.name ≠ wNode ∧ s.name ≠ wEdge) ∨ (s.kind = 2 ∧ s.refs.length < 2)
  · rw [if_pos f3] at h1; exact absurd h1 (by decide)
  rw [if_neg f3] at h1
  by_cases f4 : s.kind = 4 ∧ (s.attrs.length ≠ 1 ∨ (s.attrs.head?.map (·.1)) ≠ some [])
  · rw [if_pos f4] at h1; exact absurd h1 (by decide)
  clear h1
  unfold attE at h
  by_cases f5 : 16 < s.attrs.length
  · rw [if_pos f5] at h; exact absurd h (by decide)
  rw [if_neg f5] at h
  clear f5
  obtain ⟨k, n, r, a, b⟩ := s
  simp only [St.kind, St.name, St.refs, St.attrs, St.body] at h h3 h4 f1 f2 f3 f4
  have hr : k ≠ 2 → r = [] := fun e => by
    cases r with
    | nil => rfl
    | cons x t => exact absurd (Or.inr (Or.inl ⟨e, by simp⟩)) f2
  have hb : k ≠ 5 → b = [] := fun e => by
    cases b with
    | nil => rfl
    | cons x t => exact absurd (Or.inr (Or.inr (Or.inr ⟨e, by simp⟩))) f2
  have hn : k ≠ 2 → k ≠ 3 → isNm n = true := fun e e' => by
    cases q : isNm n
    · exact absurd ⟨e, e', q⟩ h3
    · rfl
  have hk : k ≠ 4 → keysW a := fun e x hx => by
    exact (nm_word (attL_keys e h x hx)).1
  have hc : k = 1 ∨ k = 2 ∨ k = 3 ∨ k = 4 ∨ k = 5 := by omega
  rcases hc with rfl | rfl | rfl | rfl | rfl
  · rw [hr (by decide), hb (by decide)]; exact .node n a (hn (by decide) (by decide)) (hk (by decide))
  · rw [hb (by decide)]
    have en : n = [] := by
      cases n with
      | nil => rfl
      | cons x t => exact absurd (Or.inl ⟨rfl, by simp⟩) f2
    rw [en]
    cases r with
    | nil => exact absurd (Or.inr ⟨rfl, by simp⟩) f3
    | cons r t =>
      cases t with
      | nil => exact absurd (Or.inr ⟨rfl, by simp⟩) f3
      | cons r2 t =>
        refine .edge r r2 t a (fun x hx => ?_) (hk (by decide))
        simp only [Bool.not_eq_false, List.all_eq_true] at h4
        have := h4 x hx
        unfold refB at this
        rw [Bool.and_eq_true, Bool.or_eq_true] at this
        exact ⟨this.1, this.2.imp (fun e => by simpa using e) id⟩
  · rw [hr (by decide), hb (by decide)]
    refine .dflt n a ?_ (hk (by decide))
    by_cases e : n = wNode
    · exact Or.inl e
    · by_cases e' : n = wEdge
      · exact Or.inr e'
      · exact absurd (Or.inl ⟨rfl, e, e'⟩) f3
  · rw [hr (by decide), hb (by decide)]
    cases a with
    | nil => exact absurd ⟨rfl, Or.inl (by simp)⟩ f4
    | cons x t =>
      cases t with
      | cons y t => exact absurd ⟨rfl, Or.inl (by simp)⟩ f4
      | nil =>
        obtain ⟨x, v⟩ := x
        cases x with
        | nil => exact .sset n v (hn (by decide) (by decide))
        | cons c x => exact absurd ⟨rfl, Or.inr (by simp)⟩ f4
  · rw [hr (by decide)]
    cases a with
    | nil => exact .clus n b (hn (by decide) (by decide))
    | cons x t => exact absurd (Or.inr (Or.inr (Or.inl ⟨rfl, by simp⟩))) f2

/-! ### Statements -/
section
variable {pr : List UInt8 → Int × Int}
/-- The lines of a statement: its first word and what follows it. -/
theorem head_of (d : Bool) (m : Nat) (u : List UInt8) {s : St} (h : Form s) : ∃ w x t, stS pr d m s ++ u = List.replicate m 32 ++ (w ++ x :: t) ∧ w.all isWd = true ∧ isWd x = false ∧
    ((∃ n a, s = .mk 1 n [] a [] ∧ keysW a ∧ isNm w = true ∧ w = n ∧ x :: t = aft pr a ++ 59 :: 10 :: u) ∨
     (∃ r r2 q a, s = .mk 2 [] (r :: r2 :: q) a [] ∧ refsW (r :: r2 :: q) ∧ keysW a ∧ isNm w = true ∧ w = r.1 ∧ x :: t = prtP r.2 ++ (refT d (r2 :: q) ++ (aft pr a ++ 59 :: 10 :: u))) ∨
     (∃ n a, s = .mk 3 n [] a [] ∧ keysW a ∧ w = n ∧ (w = wNode ∨ w = wEdge) ∧ x = 32 ∧ t = (if a.isEmpty then [91, 93] else attS pr a) ++ 59 :: 10 :: u) ∨
     (∃ n v, s = .mk 4 n [] [([], v)] [] ∧ isNm n = true ∧ w = wSet ∧ x = 32 ∧ t = n ++ 32 :: 61 :: 32 :: (valS pr v ++ 59 :: 10 :: u)) ∨
     (∃ n b, s = .mk 5 n [] [] b ∧ isNm n = true ∧ w = wClu ∧ x = 32 ∧ t = n ++ 32 :: 123 :: 10 :: (stL pr d (m + 4) b ++ (List.replicate m 32 ++ 125 :: 10 :: u)))) := by
  cases h with
  | node n a hn hk =>
    obtain ⟨x, t, e, hx⟩ : ∃ x t, aft pr a ++ 59 :: 10 :: u = x :: t ∧ isWd x = false := by
      rcases aft_stop (pr := pr) a (10 :: u) with ⟨q, e⟩ | ⟨q, e⟩
      · exact ⟨_, _, e, by decide⟩
      · exact ⟨_, _, e, by decide⟩
    refine ⟨n, x, t, ?_, (nm_word hn).1, hx, Or.inl ⟨n, a, rfl, hk, hn, rfl, e.symm⟩⟩
    rw [← e]; simp [stS]
  | edge r r2 q a hr hk =>
    have hw : refsW (r :: r2 :: q) := fun x hx => ⟨(nm_word (hr x hx).1).1, by
      rcases (hr x hx).2 with e | e
      · rw [e]; rfl
      · exact (nm_word e).1⟩
    obtain ⟨x, t, e, hx⟩ := prtP_head r.2 (refT_stop d (r2 :: q) (aft_stop (pr := pr) a (10 :: u)))
    refine ⟨r.1, x, t, ?_, (hw r (by simp)).1, hx, Or.inr (Or.inl ⟨r, r2, q, a, rfl, hw, hk, (hr r (by simp)).1, rfl, e.symm⟩)⟩
    rw [← e]; simp [stS, refS]
  | dflt n a hn hk =>
    refine ⟨n, 32, _, ?_, ?_, by decide, Or.inr (Or.inr (Or.inl ⟨n, a, rfl, hk, rfl, hn, rfl, rfl⟩))⟩
    · simp [stS]
    · rcases hn with rfl | rfl <;> decide
  | sset n v hn =>
    refine ⟨wSet, 32, _, ?_, by decide, by decide, Or.inr (Or.inr (Or.inr (Or.inl ⟨n, v, rfl, hn, rfl, rfl, rfl⟩)))⟩
    simp [stS]
  | clus n b hn =>
    refine ⟨wClu, 32, _, ?_, by decide, by decide, Or.inr (Or.inr (Or.inr (Or.inr ⟨n, b, rfl, hn, rfl, rfl, rfl⟩)))⟩
    simp [stS]
theorem rep_ne : ∀ {j m : Nat} {t v : List UInt8}, j < m → List.replicate j 32 ++ 125 :: t = List.replicate m 32 ++ v → False := by
  intro j
  induction j with
  | zero =>
    intro m t v hj h
    obtain ⟨m, rfl⟩ : ∃ k, m = k + 1 := ⟨m - 1, by omega⟩
    simp [List.replicate_succ] at h
  | succ j ih =>
    intro m t v hj h
    obtain ⟨m, rfl⟩ : ∃ k, m = k + 1 := ⟨m - 1, by omega⟩
    simp only [List.replicate_succ, List.cons_append, List.cons.injEq, true_and] at h
    exact ih (by omega) h
/-- Where the lines of a block end. -/
def LStop (m : Nat) (u : List UInt8) : Prop := ∃ j t, j < m ∧ u = List.replicate j 32 ++ 125 :: t
def vS (s : St) : Prop := ∃ lv, ∀ x ∈ preS s lv, staE x.1 x.2 = 0
def vL (l : List St) : Prop := ∃ lv, ∀ x ∈ preL l lv, staE x.1 x.2 = 0
theorem vS.form {s : St} (h : vS s) : Form s := by
  obtain ⟨lv, h⟩ := h
  exact form_of (h (s, lv) (by rw [preS_eq]; simp))
theorem vS.body {s : St} (h : vS s) : vL s.body := by
  obtain ⟨lv, h⟩ := h
  exact ⟨_, fun x hx => h x (by rw [preS_eq]; exact List.mem_cons_of_mem _ hx)⟩
theorem vL.cons {s : St} {t : List St} (h : vL (s :: t)) : vS s ∧ vL t := by
  obtain ⟨lv, h⟩ := h
  exact ⟨⟨lv, fun x hx => h x (by rw [preL_cons]; exact List.mem_append_left _ hx)⟩, ⟨lv, fun x hx => h x (by rw [preL_cons]; exact List.mem_append_right _ hx)⟩⟩
theorem st_inj (hp : ∀ l, (pr l).2 = 0 → numForm l) : (∀ s : St, ∀ s' d m u u', vS s → vS s' → stS pr d m s ++ u = stS pr d m s' ++ u' → s = s' ∧ u = u') ∧
    ∀ l : List St, ∀ l' d m u u', vL l → vL l' → LStop m u → LStop m u' → stL pr d m l ++ u = stL pr d m l' ++ u' → l = l' ∧ u = u' := by
  refine st_ind (fun k n r a b hb s' d m u u' hv hv' h => ?_) (fun l' d m u u' _ hv' hs hs' h => ?_) (fun s t ih1 ih2 l' d m u u' hv hv' hs hs' h => ?_)
  · obtain ⟨w, x, t, e, hw, hx, H⟩ := head_of (pr := pr) d m u hv.form
    obtain ⟨w', x', t', e', hw', hx', H'⟩ := head_of (pr := pr) d m u' hv'.form
    rw [e, e'] at h
    obtain ⟨rfl, rfl, rfl⟩ := span_inj hw hw' hx hx' (List.append_cancel_left h)
    clear e e' h hw hw' hx hx'
    have k1 : isNm wNode = false := by decide +kernel
    have k2 : isNm wEdge = false := by decide +kernel
    have k3 : isNm wSet = false := by decide +kernel
    have k4 : isNm wClu = false := by decide +kernel
    have nd : ∀ {a : List Pr} {r : List UInt8} {r2 : Pr} {q : List Pr} {u u2 : List UInt8}, aft pr a ++ 59 :: u = prtP r ++ (refT d (r2 :: q) ++ u2) → False := by
      intro a r r2 q u u2 h
      cases r with
      | nil => cases a <;> simp [aft, attS, prtP, refT] at h
      | cons c r => cases a <;> simp [aft, attS, prtP, refT] at h
    rcases H with ⟨n1, a1, e1, ka, nw, ew, ht⟩ | ⟨r1, r2, q1, a1, e1, kr, ka, nw, ew, ht⟩ | ⟨n1, a1, e1, ka, ew, nw, ex, ht⟩ | ⟨n1, v1, e1, nn, ew, ex, ht⟩ | ⟨n1, b1, e1, nn, ew, ex, ht⟩
    · rcases H' with ⟨n1', a1', e1', ka', nw', ew', ht'⟩ | ⟨r1', r2', q1', a1', e1', kr', ka', nw', ew', ht'⟩ | ⟨n1', a1', e1', ka', ew', nw', ex', ht'⟩ | ⟨n1', v1', e1', nn', ew', ex', ht'⟩ | ⟨n1', b1', e1', nn', ew', ex', ht'⟩
      · obtain ⟨e2, e3⟩ := aft_inj hp ka ka' (ht.symm.trans ht')
        simp only [List.cons.injEq, true_and] at e3
        exact ⟨by rw [e1, e1', ← ew, ← ew', e2], e3⟩
      · exact (nd (ht.symm.trans ht')).elim
      · rcases nw' with q | q <;> rw [q] at nw <;> simp_all
      · rw [ew', k3] at nw; cases nw
      · rw [ew', k4] at nw; cases nw
    · rcases H' with ⟨n1', a1', e1', ka', nw', ew', ht'⟩ | ⟨r1', r2', q1', a1', e1', kr', ka', nw', ew', ht'⟩ | ⟨n1', a1', e1', ka', ew', nw', ex', ht'⟩ | ⟨n1', v1', e1', nn', ew', ex', ht'⟩ | ⟨n1', b1', e1', nn', ew', ex', ht'⟩
      · exact (nd (ht'.symm.trans ht)).elim
      · obtain ⟨e2, e3⟩ := refW_inj (d := d) (kr r1 (by simp)) (kr' r1' (by simp)) (aft_stop (pr := pr) a1 (10 :: u)) (aft_stop (pr := pr) a1' (10 :: u')) (show r1.1 ++ _ = r1'.1 ++ _ by rw [← ht, ← ht', ← ew, ← ew'])
        obtain ⟨e4, e5⟩ := refT_inj d (fun y hy => kr y (List.mem_cons_of_mem _ hy)) (fun y hy => kr' y (List.mem_cons_of_mem _ hy)) (aft_stop (pr := pr) a1 (10 :: u)) (aft_stop (pr := pr) a1' (10 :: u')) e3
        obtain ⟨e6, e7⟩ := aft_inj hp ka ka' e5
        simp only [List.cons.injEq, true_and] at e7
        exact ⟨by rw [e1, e1', e2, e4, e6], e7⟩
      · rcases nw' with q | q <;> rw [q] at nw <;> simp_all
      · rw [ew', k3] at nw; cases nw
      · rw [ew', k4] at nw; cases nw
    · rcases H' with ⟨n1', a1', e1', ka', nw', ew', ht'⟩ | ⟨r1', r2', q1', a1', e1', kr', ka', nw', ew', ht'⟩ | ⟨n1', a1', e1', ka', ew', nw', ex', ht'⟩ | ⟨n1', v1', e1', nn', ew', ex', ht'⟩ | ⟨n1', b1', e1', nn', ew', ex', ht'⟩
      · rcases nw with q | q <;> rw [q] at nw' <;> simp_all
      · rcases nw with q | q <;> rw [q] at nw' <;> simp_all
      · obtain ⟨e2, e3⟩ := dft_inj hp ka ka' (ht.symm.trans ht')
        simp only [List.cons.injEq, true_and] at e3
        exact ⟨by rw [e1, e1', ← ew, ← ew', e2], e3⟩
      · rw [ew'] at nw; rcases nw with q | q <;> exact absurd q (by decide)
      · rw [ew'] at nw; rcases nw with q | q <;> exact absurd q (by decide)
    · rcases H' with ⟨n1', a1', e1', ka', nw', ew', ht'⟩ | ⟨r1', r2', q1', a1', e1', kr', ka', nw', ew', ht'⟩ | ⟨n1', a1', e1', ka', ew', nw', ex', ht'⟩ | ⟨n1', v1', e1', nn', ew', ex', ht'⟩ | ⟨n1', b1', e1', nn', ew', ex', ht'⟩
      · rw [ew, k3] at nw'; cases nw'
      · rw [ew, k3] at nw'; cases nw'
      · rw [ew] at nw'; rcases nw' with q | q <;> exact absurd q (by decide)
      · obtain ⟨e2, -, e3⟩ := span_inj (nm_word nn).1 (nm_word nn').1 (by decide) (by decide) (ht.symm.trans ht')
        simp only [List.cons.injEq, true_and] at e3
        obtain ⟨e4, -, e5⟩ := val_inj hp (by decide) (by decide) e3
        simp only [List.cons.injEq, true_and] at e5
        exact ⟨by rw [e1, e1', e2, e4], e5⟩
      · rw [ew] at ew'; exact absurd ew' (by decide)
    · rcases H' with ⟨n1', a1', e1', ka', nw', ew', ht'⟩ | ⟨r1', r2', q1', a1', e1', kr', ka', nw', ew', ht'⟩ | ⟨n1', a1', e1', ka', ew', nw', ex', ht'⟩ | ⟨n1', v1', e1', nn', ew', ex', ht'⟩ | ⟨n1', b1', e1', nn', ew', ex', ht'⟩
      · rw [ew, k4] at nw'; cases nw'
      · rw [ew, k4] at nw'; cases nw'
      · rw [ew] at nw'; rcases nw' with q | q <;> exact absurd q (by decide)
      · rw [ew] at ew'; exact absurd ew' (by decide)
      · obtain ⟨e2, -, e3⟩ := span_inj (nm_word nn).1 (nm_word nn').1 (by decide) (by decide) (ht.symm.trans ht')
        simp only [List.cons.injEq, true_and] at e3
        have vb := hv.body
        have vb' := hv'.body
        cases e1
        rw [e1'] at vb'
        obtain ⟨e4, e5⟩ := hb b1' d (m + 4) _ _ vb vb' ⟨m, _, by omega, rfl⟩ ⟨m, _, by omega, rfl⟩ e3
        have e6 := List.append_cancel_left e5
        simp only [List.cons.injEq, true_and] at e6
        exact ⟨by rw [e1', e2, e4], e6⟩
  · cases l' with
    | nil => exact ⟨rfl, h⟩
    | cons s' t' =>
      obtain ⟨j, t, hj, rfl⟩ := hs
      simp only [stL, List.nil_append, List.append_assoc] at h
      obtain ⟨w, x, q, e, -⟩ := head_of (pr := pr) d m (stL pr d m t' ++ u') (hv'.cons).1.form
      rw [e] at h
      exact (rep_ne hj h).elim
  · cases l' with
    | nil =>
      obtain ⟨j, q, hj, rfl⟩ := hs'
      simp only [stL, List.nil_append, List.append_assoc] at h
      obtain ⟨w, x, q, e, -⟩ := head_of (pr := pr) d m (stL pr d m t ++ u) (hv.cons).1.form
      rw [e] at h
      exact (rep_ne hj h.symm).elim
    | cons s' t' =>
      simp only [stL, List.append_assoc] at h
      obtain ⟨e1, e2⟩ := ih1 s' d m _ _ hv.cons.1 hv'.cons.1 h
      obtain ⟨e3, e4⟩ := ih2 t' d m u u' hv.cons.2 hv'.cons.2 hs hs' e2
      exact ⟨by rw [e1, e3], e4⟩
/-- P8.4. -/
theorem txt_inj (hp : ∀ l, (pr l).2 = 0 → numForm l) {A B : Tr} (ha : validT A = 0) (hb : validT B = 0) : txtT pr A = txtT pr B ↔ A = B := by
  refine ⟨fun h => ?_, fun h => by rw [h]⟩
  obtain ⟨na, ca, va⟩ := (valid_iff A).1 ha
  obtain ⟨nb, cb, vb⟩ := (valid_iff B).1 hb
  unfold txtT at h
  have hd : ∀ d : Bool, (wDir d).all isWd = true := by decide
  obtain ⟨e1, -, e2⟩ := span_inj (hd _) (hd _) (by decide) (by decide) h
  obtain ⟨e3, -, e4⟩ := span_inj (nm_word na).1 (nm_word nb).1 (by decide) (by decide) e2
  simp only [List.cons.injEq, true_and] at e4
  have ed : A.dir = B.dir := by
    revert e1
    cases A.dir <;> cases B.dir <;> decide
  rw [ed] at e4
  obtain ⟨e5, -⟩ := (st_inj hp).2 A.body B.body B.dir 4 _ _ ⟨0, va⟩ ⟨0, vb⟩ ⟨0, [10], by omega, rfl⟩ ⟨0, [10], by omega, rfl⟩ e4
  obtain ⟨n, d, b⟩ := A
  obtain ⟨n', d', b'⟩ := B
  simp only at e3 ed e5
  rw [e3, ed, e5]
end
end Go.Proofs.YtgccheiemnpaoaaGreatDoor.prt
namespace Go.Proofs.YtgccheiemnpaoaaGreatDoor.prt
open lex tre

section
variable {pr : List UInt8 → Int × Int}
/-- A text of at least k tokens, from any line on. -/
def G (pr : List UInt8 → Int × Int) (k : Nat) (l : List UInt8) : Prop := ∀ line, (tkz pr l line false).2.2 = 0 ∧ k ≤ (tkz pr l line false).1.length
theorem G.nil : G pr 0 [] := fun line => by rw [tkz_nil]; exact ⟨rfl, Nat.zero_le _⟩
theorem G.less {k j : Nat} {l : List UInt8} (h : G pr k l) (hj : j ≤ k) : G pr j l := fun line => ⟨(h line).1, Nat.le_trans hj (h line).2⟩
theorem G.lf {k : Nat} {l : List UInt8} (h : G pr k l) : G pr k (10 :: l) := fun line => by rw [tkz_lf pr 10 l line false (by decide)]; exact h _
theorem G.sp {k : Nat} {l : List UInt8} (h : G pr k l) : G pr k (32 :: l) := fun line => by rw [tkz_skip pr 32 l line false (by decide) (by decide)]; exact h _
theorem G.sps {k : Nat} {l : List UInt8} (h : G pr k l) (m : Nat) : G pr k (List.replicate m 32 ++ l) := by
  induction m with
  | zero => exact h
  | succ m ih => rw [List.replicate_succ]; exact ih.sp
theorem G.tok {k : Nat} {w l : List UInt8} (h : G pr k l) (hw : w ≠ []) (h1 : (oneL pr (w ++ l)).2.1 = w.length) (h2 : (oneL pr (w ++ l)).2.2 = 0) : G pr (k + 1) (w ++ l) := fun line => by
  cases w with
  | nil => exact absurd rfl hw
  | cons c w =>
    rw [List.cons_append] at h1 h2 ⊢
    obtain ⟨s1, s2⟩ := oneL_start pr c (w ++ l) h2
    rw [tkz_tok pr c (w ++ l) line s1 s2 h2, h1]
    have e : (c :: (w ++ l)).drop (c :: w).length = l := by rw [← List.cons_append, List.drop_left]
    rw [e]
    unfold comb
    rw [if_neg (by rw [(h line).1]; decide)]
    exact ⟨rfl, by rw [List.length_cons]; have := (h line).2; omega⟩
theorem G.nm {k : Nat} {w u : List UInt8} {x : UInt8} (h : G pr k (x :: u)) (hw : isNm w = true) (hx : isWd x = false) : G pr (k + 1) (w ++ x :: u) := by
  have hne := (nm_word hw).2
  simp only [isNm, Bool.and_eq_true, decide_eq_true_eq, Bool.not_eq_true'] at hw
  obtain ⟨⟨⟨h1, h2⟩, h3⟩, h4⟩ := hw
  have hp : 0 < w.length := List.length_pos_iff.2 hne
  have e : wordLen (w ++ x :: u) = w.length := by rw [wordLen_stop w u x hx, h2]
  have e2 : (w ++ x :: u).take w.length = w := List.take_left
  refine h.tok hne ?_ ?_ <;> (unfold oneL; rw [e, if_pos hp, e2, if_neg (by rw [h4]; simp), if_neg (by omega)])
theorem G.kw {k : Nat} {w u : List UInt8} {x : UInt8} (h : G pr k (x :: u)) (hw : isKw w = true) (hx : isWd x = false) : G pr (k + 1) (w ++ x :: u) := by
  obtain ⟨h2, hp⟩ := kw_word hw
  have e : wordLen (w ++ x :: u) = w.length := by rw [wordLen_stop w u x hx, h2]
  have e2 : (w ++ x :: u).take w.length = w := List.take_left
  refine h.tok (List.length_pos_iff.1 hp) ?_ ?_ <;> (unfold oneL; rw [e, if_pos hp, e2, if_pos hw])
theorem mk_no (c : UInt8) (hc : c ∈ [123, 125, 91, 93, 59, 44, 61, 58]) (y : UInt8) : isMk [c, y] = false := by
  simp only [List.mem_cons, List.not_mem_nil, or_false] at hc
  unfold isMk mks
  rcases hc with rfl | rfl | rfl | rfl | rfl | rfl | rfl | rfl <;> simp
theorem G.mk {k : Nat} {u : List UInt8} (h : G pr k u) (c : UInt8) (hc : c ∈ [123, 125, 91, 93, 59, 44, 61, 58]) : G pr (k + 1) (c :: u) := by
  have hm : isMk [c] = true := by
    simp only [List.mem_cons, List.not_mem_nil, or_false] at hc
    rcases hc with rfl | rfl | rfl | rfl | rfl | rfl | rfl | rfl <;> decide
  have w0 : wordLen (c :: u) = 0 := by
    simp only [List.mem_cons, List.not_mem_nil, or_false] at hc
    rcases hc with rfl | rfl | rfl | rfl | rfl | rfl | rfl | rfl <;> rfl
  have n0 : numLen (c :: u) = 0 := by
    simp only [List.mem_cons, List.not_mem_nil, or_false] at hc
    rcases hc with rfl | rfl | rfl | rfl | rfl | rfl | rfl | rfl <;> exact numLen_no (by decide) (by rintro ⟨q, -⟩; exact absurd q (by decide))
  have q0 : ¬ (c :: u).head? = some 34 := by
    simp only [List.mem_cons, List.not_mem_nil, or_false] at hc
    rcases hc with rfl | rfl | rfl | rfl | rfl | rfl | rfl | rfl <;> simp
  have t0 : ¬ (1 < (c :: u).length ∧ isMk ((c :: u).take 2) = true) := by
    rintro ⟨q1, q2⟩
    cases u with
    | nil => simp at q1
    | cons y u =>
      rw [show (c :: y :: u).take 2 = [c, y] from rfl, mk_no c hc y] at q2
      cases q2
  have e : oneL pr (c :: u) = (⟨5, [c], 0, 0⟩, 1, 0) := by
    unfold oneL
    rw [w0, n0, if_neg (by decide), if_neg (by decide), if_neg q0, if_neg t0, show (c :: u).take 1 = [c] from rfl, if_pos hm]
  exact h.tok (w := [c]) (by simp) (by rw [List.singleton_append, e]; rfl) (by rw [List.singleton_append, e])
theorem G.arrow {k : Nat} {u : List UInt8} (h : G pr k u) (d : Bool) : G pr (k + 1) (45 :: (if d then 62 else 45) :: u) := by
  have e : oneL pr (45 :: (if d then 62 else 45) :: u) = (⟨5, [45, if d then 62 else 45], 0, 0⟩, 2, 0) := by
    unfold oneL
    have w0 : wordLen (45 :: (if d then 62 else 45) :: u) = 0 := rfl
    have n0 : numLen (45 :: (if d then 62 else 45) :: u) = 0 := numLen_no (by decide) (by rintro ⟨-, q⟩; rw [List.head?_cons, Option.map_some, Option.some.injEq] at q; cases d <;> exact absurd q (by decide))
    have t0 : 1 < (45 :: (if d then 62 else 45) :: u : List UInt8).length ∧ isMk ((45 :: (if d then 62 else 45) :: u : List UInt8).take 2) = true := ⟨by simp, by cases d <;> rfl⟩
    rw [w0, n0, if_neg (by decide), if_neg (by decide), if_neg (by simp), if_pos t0]
    rfl
  exact h.tok (w := [45, if d then 62 else 45]) (by simp) (by rw [List.cons_append, List.singleton_append, e]; rfl) (by rw [List.cons_append, List.singleton_append, e])
theorem G.num {k : Nat} {v u : List UInt8} {x : UInt8} (h : G pr k (x :: u)) (hv : numForm v) (he : (pr v).2 = 0) (hx : isNb x = false) : G pr (k + 1) (v ++ x :: u) := by
  have hne := (num_uq hv).2
  have hw : isWd x = false := by unfold isNb at hx; rw [Bool.or_eq_false_iff] at hx; exact hx.1
  have e1 : wordLen (v ++ x :: u) = 0 := by rw [wordLen_stop v u x hw, numForm_word hv]
  have e2 : numLen (v ++ x :: u) = v.length := by rw [numLen_stop v u x hne hx, numForm_len hv]
  have e3 : (v ++ x :: u).take v.length = v := List.take_left
  have hp : 0 < v.length := List.length_pos_iff.2 hne
  refine h.tok hne ?_ ?_ <;> (unfold oneL; rw [e1, e2, if_neg (by decide), if_pos hp, e3])
  exact he
theorem G.quo {k : Nat} {v u : List UInt8} (h : G pr k u) (h1 : v.length ≤ 32) (h2 : v.all isPl = true) : G pr (k + 1) (quoL v ++ u) := by
  have e := strL_esc v [] 1 h2 (by simpa using h1)
  have e2 := strL_app u (escL v ++ [34]).length (escL v ++ [34]) [] 1 (Nat.le_refl _) (by rw [e])
  rw [e] at e2
  have w0 : wordLen (quoL v ++ u) = 0 := rfl
  have n0 : numLen (quoL v ++ u) = 0 := rfl
  have e3 : (quoL v ++ u).tail = escL v ++ [34] ++ u := rfl
  have q : (quoL v ++ u).head? = some 34 := rfl
  refine h.tok (by simp [quoL]) ?_ ?_ <;> (unfold oneL; rw [w0, n0, if_neg (by decide), if_neg (by decide), if_pos q, e3, e2])
  simp [quoL]; omega
/-- The bytes that a value's text may have ahead of it are none of its own. -/
theorem G.val (hp : ∀ l, (pr l).2 = 0 → numForm l) {k : Nat} {v u : List UInt8} {x : UInt8} (h : G pr k (x :: u)) (h1 : v.length ≤ 32) (h2 : v.all isPl = true) (hx : isUq x = false) : G pr (k + 1) (valS pr v ++ x :: u) := by
  have hn : isNb x = false := by unfold isUq at hx; rw [Bool.or_eq_false_iff] at hx; exact hx.1
  have hw : isWd x = false := by unfold isNb at hn; rw [Bool.or_eq_false_iff] at hn; exact hn.1
  unfold valS
  split
  · rename_i hv; exact h.nm hv hw
  · split
    · rename_i hv; exact h.num (hp v hv) hv hn
    · exact h.quo h1 h2
def attOk (l : List Pr) : Prop := ∀ a ∈ l, isNm a.1 = true ∧ a.2.length ≤ 32 ∧ a.2.all isPl = true
theorem G.att (hp : ∀ l, (pr l).2 = 0 → numForm l) {k : Nat} {a : Pr} {u : List UInt8} {x : UInt8} (h : G pr k (x :: u)) (ha : isNm a.1 = true ∧ a.2.length ≤ 32 ∧ a.2.all isPl = true) (hx : isUq x = false) : G pr k (attB pr a ++ x :: u) := by
  unfold attB
  rw [List.append_assoc, List.cons_append]
  exact (((h.val hp ha.2.1 ha.2.2 hx).mk 61 (by decide)).nm ha.1 (by decide)).less (by omega)
theorem G.attT (hp : ∀ l, (pr l).2 = 0 → numForm l) {k : Nat} {u : List UInt8} (h : G pr k u) : ∀ {l : List Pr}, attOk l → G pr k (attT pr l ++ u) := by
  intro l
  induction l with
  | nil => intro _; exact (h.mk 93 (by decide)).less (by omega)
  | cons a t ih =>
    intro hl
    have h2 := ih (fun y hy => hl y (List.mem_cons_of_mem _ hy))
    obtain ⟨x, q, e, hx⟩ := attT_head (pr := pr) t u
    rw [e] at h2
    simp only [prt.attT, List.cons_append, List.append_assoc]
    rw [e]
    exact (((h2.att hp (hl a (by simp)) hx).sp).mk 44 (by decide)).less (by omega)
theorem G.attS (hp : ∀ l, (pr l).2 = 0 → numForm l) {k : Nat} {u : List UInt8} (h : G pr k u) {l : List Pr} (hl : attOk l) : G pr k (attS pr l ++ u) := by
  cases l with
  | nil => exact h
  | cons a t =>
    have h2 := h.attT hp (l := t) (fun y hy => hl y (List.mem_cons_of_mem _ hy))
    obtain ⟨x, q, e, hx⟩ := attT_head (pr := pr) t u
    rw [e] at h2
    simp only [prt.attS, List.cons_append, List.append_assoc]
    rw [e]
    exact ((h2.att hp (hl a (by simp)) hx).mk 91 (by decide)).less (by omega)
theorem G.aft (hp : ∀ l, (pr l).2 = 0 → numForm l) {k : Nat} {u : List UInt8} (h : G pr k u) {l : List Pr} (hl : attOk l) : G pr k (aft pr l ++ u) := by
  unfold prt.aft
  split
  · exact h
  · exact (h.attS hp hl).sp
theorem G.port {k : Nat} {p u : List UInt8} (h : G pr k u) (hs : PStop u) (hw : p = [] ∨ isNm p = true) : G pr k (prtP p ++ u) := by
  unfold prtP
  split
  · exact h
  · rename_i hp
    obtain ⟨x, q, rfl, hx, -⟩ := hs.cons
    rcases hw with rfl | hw
    · simp at hp
    · exact ((h.nm hw hx).mk 58 (by decide)).less (by omega)
def refOk (l : List Pr) : Prop := ∀ x ∈ l, isNm x.1 = true ∧ (x.2 = [] ∨ isNm x.2 = true)
theorem G.ref {k : Nat} {d : Bool} {r : Pr} {t : List Pr} {u : List UInt8} (h : G pr k (refT d t ++ u)) (hs : RStop u) (hr : isNm r.1 = true ∧ (r.2 = [] ∨ isNm r.2 = true)) : G pr k (r.1 ++ (prtP r.2 ++ (refT d t ++ u))) := by
  have h2 := h.port (refT_stop d t hs) hr.2
  obtain ⟨x, q, e, hx⟩ := prtP_head r.2 (refT_stop d t hs)
  rw [e] at h2 ⊢
  exact (h2.nm hr.1 hx).less (by omega)
theorem G.refT {k : Nat} {d : Bool} {u : List UInt8} (h : G pr k u) (hs : RStop u) : ∀ {l : List Pr}, refOk l → G pr k (refT d l ++ u) := by
  intro l
  induction l with
  | nil => intro _; exact h
  | cons r t ih =>
    intro hl
    have h2 := ih (fun y hy => hl y (List.mem_cons_of_mem _ hy))
    simp only [prt.refT, List.cons_append, List.append_assoc]
    exact (((h2.ref hs (hl r (by simp))).sp.arrow d).sp).less (by omega)
end
end Go.Proofs.YtgccheiemnpaoaaGreatDoor.prt
namespace Go.Proofs.YtgccheiemnpaoaaGreatDoor.prt
open lex tre

theorem attL_vals {k : Int} : ∀ {l done : List Pr}, attL k done l = 0 → ∀ a ∈ l, a.2.length ≤ 32 ∧ a.2.all isPl = true := by
  intro l
  induction l with
  | nil => intro done _ a ha; simp at ha
  | cons x t ih =>
    intro done h a ha
    unfold attL at h
    split at h
    · exact absurd h (by decide)
    · split at h
      · exact absurd h (by decide)
      · split at h
        · exact absurd h (by decide)
        · rename_i h3
          split at h
          · exact absurd h (by decide)
          · rename_i h4
            rcases List.mem_cons.1 ha with rfl | ha
            · exact ⟨by omega, by simpa using h4⟩
            · exact ih h a ha
theorem staE_att {s : St} {lv : Int} (h : staE s lv = 0) : attL s.kind [] s.attrs = 0 := by
  unfold staE at h
  by_cases h1 : fldE s ≠ 0
  · rw [if_pos h1] at h; exact absurd h h1
  rw [if_neg h1] at h
  by_cases h2 : s.kind = 5 ∧ 6 ≤ lv
  · rw [if_pos h2] at h; exact absurd h (by decide)
  rw [if_neg h2] at h
  by_cases h3 : s.kind ≠ 2 ∧ s.kind ≠ 3 ∧ isNm s.name = false
  · rw [if_pos h3] at h; exact absurd h (by decide)
  rw [if_neg h3] at h
  by_cases h4 : s.refs.all refB = false
  · rw [if_pos h4] at h; exact absurd h (by decide)
  rw [if_neg h4] at h
  unfold attE at h
  by_cases f5 : 16 < s.attrs.length
  · rw [if_pos f5] at h; exact absurd h (by decide)
  rwa [if_neg f5] at h
theorem vS.vals {s : St} (h : vS s) : ∀ a ∈ s.attrs, a.2.length ≤ 32 ∧ a.2.all isPl = true := by
  obtain ⟨lv, h⟩ := h
  exact attL_vals (staE_att (h (s, lv) (by rw [preS_eq]; simp)))
theorem vS.att {s : St} (h : vS s) (hk : s.kind ≠ 4) : attOk s.attrs := by
  have h2 := h.vals
  obtain ⟨lv, h⟩ := h
  exact fun a ha => ⟨attL_keys hk (staE_att (h (s, lv) (by rw [preS_eq]; simp))) a ha, h2 a ha⟩

section
variable {pr : List UInt8 → Int × Int}
theorem aft_head (a : List Pr) (u : List UInt8) : ∃ x t, aft pr a ++ 59 :: u = x :: t ∧ isWd x = false := by
  rcases aft_stop (pr := pr) a u with ⟨q, e⟩ | ⟨q, e⟩
  · exact ⟨_, _, e, by decide⟩
  · exact ⟨_, _, e, by decide⟩
theorem stm_toks (hp : ∀ l, (pr l).2 = 0 → numForm l) : (∀ s : St, ∀ d m k u, vS s → G pr k u → G pr k (stS pr d m s ++ u)) ∧ ∀ l : List St, ∀ d m k u, vL l → G pr k u → G pr k (stL pr d m l ++ u) := by
  refine st_ind (fun kd n r a b hb d m k u hv hu => ?_) (fun d m k u _ hu => hu) (fun s t ih1 ih2 d m k u hv hu => ?_)
  · have hend : G pr k (59 :: 10 :: u) := (hu.lf.mk 59 (by decide)).less (by omega)
    have hvals := hv.vals
    have hatt := hv.att
    have hbody := hv.body
    have hf := hv.form
    clear hv
    cases hf with
    | node n a hn hk =>
      have e : stS pr d m (.mk 1 n [] a []) ++ u = List.replicate m 32 ++ (n ++ (aft pr a ++ 59 :: 10 :: u)) := by simp [stS]
      rw [e]
      have h2 := hend.aft hp (hatt (show (1 : Int) ≠ 4 by decide))
      obtain ⟨x, t, e2, hx⟩ := aft_head (pr := pr) a (10 :: u)
      change G pr k (aft pr a ++ 59 :: 10 :: u) at h2
      rw [e2] at h2 ⊢
      exact ((h2.nm hn hx).less (by omega)).sps m
    | edge r r2 q a hr hk =>
      have e : stS pr d m (.mk 2 [] (r :: r2 :: q) a []) ++ u = List.replicate m 32 ++ (r.1 ++ (prtP r.2 ++ (refT d (r2 :: q) ++ (aft pr a ++ 59 :: 10 :: u)))) := by simp [stS, refS]
      rw [e]
      have h2 : G pr k (aft pr a ++ 59 :: 10 :: u) := hend.aft hp (hatt (show (2 : Int) ≠ 4 by decide))
      have h3 := h2.refT (d := d) (aft_stop (pr := pr) a (10 :: u)) (l := r2 :: q) (fun y hy => hr y (List.mem_cons_of_mem _ hy))
      exact (h3.ref (aft_stop (pr := pr) a (10 :: u)) (hr r (by simp))).sps m
    | dflt n a hn hk =>
      have e : stS pr d m (.mk 3 n [] a []) ++ u = List.replicate m 32 ++ (n ++ 32 :: ((if a.isEmpty then [91, 93] else attS pr a) ++ 59 :: 10 :: u)) := by simp [stS]
      rw [e]
      have h2 : G pr k ((if a.isEmpty then [91, 93] else attS pr a) ++ 59 :: 10 :: u) := by
        split
        · exact ((hend.mk 93 (by decide)).mk 91 (by decide)).less (by omega)
        · exact hend.attS hp (hatt (show (3 : Int) ≠ 4 by decide))
      exact ((h2.sp.kw (w := n) (by rcases hn with rfl | rfl <;> decide) (by decide)).less (by omega)).sps m
    | sset n v hn =>
      have e : stS pr d m (.mk 4 n [] [([], v)] []) ++ u = List.replicate m 32 ++ (wSet ++ 32 :: (n ++ 32 :: 61 :: 32 :: (valS pr v ++ 59 :: 10 :: u))) := by simp [stS]
      rw [e]
      obtain ⟨q1, q2⟩ := hvals ([], v) (by simp [St.attrs])
      have h2 := (((hend.val hp q1 q2 (by decide)).sp.mk 61 (by decide)).sp.nm hn (by decide)).sp
      exact ((h2.kw (w := wSet) (by decide) (by decide)).less (by omega)).sps m
    | clus n b hn =>
      have e : stS pr d m (.mk 5 n [] [] b) ++ u = List.replicate m 32 ++ (wClu ++ 32 :: (n ++ 32 :: 123 :: 10 :: (stL pr d (m + 4) b ++ (List.replicate m 32 ++ 125 :: 10 :: u)))) := by simp [stS]
      rw [e]
      have h1 : G pr k (List.replicate m 32 ++ 125 :: 10 :: u) := ((hu.lf.mk 125 (by decide)).less (by omega)).sps m
      have h2 := (((hb d (m + 4) k _ hbody h1).lf.mk 123 (by decide)).sp.nm hn (by decide)).sp
      exact ((h2.kw (w := wClu) (by decide) (by decide)).less (by omega)).sps m
  · simp only [stL, List.append_assoc]
    exact ih1 d m k _ hv.cons.1 (ih2 d m k u hv.cons.2 hu)
/-- The text of a valid tree is tokenized, into at least four tokens. -/
theorem txt_toks (hp : ∀ l, (pr l).2 = 0 → numForm l) {T : Tr} (h : validT T = 0) : G pr 4 (txtT pr T) := by
  obtain ⟨hn, _, hv⟩ := (valid_iff T).1 h
  unfold txtT
  have h1 : G pr 1 [125, 10] := (G.nil.lf).mk 125 (by decide)
  have h2 := (((stm_toks hp).2 T.body T.dir 4 1 _ ⟨0, hv⟩ h1).lf.mk 123 (by decide)).sp.nm hn (by decide)
  exact h2.sp.kw (w := wDir T.dir) (by cases T.dir <;> decide) (by decide)

/-! ### Bytes and lines -/
theorem wd_pl {c : UInt8} (h : isWd c = true) : isPl c = true := by
  unfold isWd isLet isDgt at h
  unfold isPl
  simp only [Bool.or_eq_true, decide_eq_true_eq] at h ⊢
  omega
theorem esc_pl {v : List UInt8} (h : v.all isPl = true) : (escL v).all isPl = true := by
  rw [List.all_eq_true] at h ⊢
  intro x hx
  obtain ⟨c, hc, hx⟩ := List.mem_flatMap.1 hx
  split at hx
  · simp only [List.mem_cons, List.not_mem_nil, or_false] at hx
    rcases hx with rfl | rfl
    · decide
    · exact h x hc
  · simp only [List.mem_cons, List.not_mem_nil, or_false] at hx
    rw [hx]; exact h c hc
theorem val_pl {v : List UInt8} (h : v.all isPl = true) : (valS pr v).all isPl = true := by
  unfold valS
  split
  · exact h
  · split
    · exact h
    · unfold quoL
      rw [List.all_cons, List.all_append, esc_pl h]
      rfl
theorem nm_pl {l : List UInt8} (h : isNm l = true) : l.all isPl = true := all_mono (nm_word h).1 (fun _ => wd_pl)
theorem attB_pl {a : Pr} (h : isNm a.1 = true ∧ a.2.length ≤ 32 ∧ a.2.all isPl = true) : (attB pr a).all isPl = true := by
  unfold attB
  rw [List.all_append, List.all_cons, nm_pl h.1, val_pl h.2.2]; rfl
theorem attT_pl : ∀ {l : List Pr}, attOk l → (attT pr l).all isPl = true := by
  intro l
  induction l with
  | nil => intro _; rfl
  | cons a t ih =>
    intro h
    unfold attT
    rw [List.all_cons, List.all_cons, List.all_append, attB_pl (h a (by simp)), ih (fun y hy => h y (List.mem_cons_of_mem _ hy))]; rfl
theorem attS_pl {l : List Pr} (h : attOk l) : (attS pr l).all isPl = true := by
  cases l with
  | nil => rfl
  | cons a t =>
    unfold attS
    rw [List.all_cons, List.all_append, attB_pl (h a (by simp)), attT_pl (fun y hy => h y (List.mem_cons_of_mem _ hy))]; rfl
theorem aft_pl {l : List Pr} (h : attOk l) : (aft pr l).all isPl = true := by
  unfold aft
  split
  · rfl
  · rw [List.all_cons, attS_pl h]; rfl
theorem prtP_pl {p : List UInt8} (h : p = [] ∨ isNm p = true) : (prtP p).all isPl = true := by
  unfold prtP
  split
  · rfl
  · rename_i hp
    rcases h with rfl | h
    · simp at hp
    · rw [List.all_cons, nm_pl h]; rfl
theorem refT_pl (d : Bool) : ∀ {l : List Pr}, refOk l → (refT d l).all isPl = true := by
  intro l
  induction l with
  | nil => intro _; rfl
  | cons r t ih =>
    intro h
    unfold refT
    simp only [List.all_cons, List.all_append]
    rw [nm_pl (h r (by simp)).1, prtP_pl (h r (by simp)).2, ih (fun y hy => h y (List.mem_cons_of_mem _ hy))]
    cases d <;> rfl
theorem refS_pl (d : Bool) {l : List Pr} (h : refOk l) : (refS d l).all isPl = true := by
  cases l with
  | nil => rfl
  | cons r t =>
    unfold refS
    simp only [List.all_append]
    rw [nm_pl (h r (by simp)).1, prtP_pl (h r (by simp)).2, refT_pl d (fun y hy => h y (List.mem_cons_of_mem _ hy))]
    rfl
theorem rep_pl (m : Nat) : (List.replicate m (32 : UInt8)).all isPl = true := by
  rw [List.all_eq_true]
  intro x hx
  rw [(List.mem_replicate.1 hx).2]; decide
/-- A byte of a text. -/
def isTx (c : UInt8) : Bool := decide (c = 10) || isPl c
theorem pl_tx {l : List UInt8} (h : l.all isPl = true) : l.all isTx = true := all_mono h (fun c hc => by unfold isTx; rw [hc]; simp)
theorem pl_count {l : List UInt8} (h : l.all isPl = true) : l.count 10 = 0 := by
  rw [List.count_eq_zero]
  intro hm
  rw [List.all_eq_true] at h
  exact absurd (h 10 hm) (by decide)
theorem app_tx {a b : List UInt8} (h : a.all isTx = true) (h' : b.all isTx = true) : (a ++ b).all isTx = true := by rw [List.all_append, h, h']; rfl
theorem app_cnt {a b : List UInt8} {n m : Nat} (h : a.count 10 = n) (h' : b.count 10 = m) : (a ++ b).count 10 = n + m := by rw [List.count_append, h, h']
/-- A line: bytes from 32 to 126 and a line feed. -/
theorem line_of {p : List UInt8} (h : p.all isPl = true) : (p ++ [10]).all isTx = true ∧ (p ++ [10]).count 10 = 1 := by
  refine ⟨?_, ?_⟩
  · rw [List.all_append, pl_tx h]; rfl
  · rw [List.count_append, pl_count h]; rfl
theorem st_lines : (∀ s : St, ∀ d m lv, vS s → (stS pr d m s).all isTx = true ∧ (stS pr d m s).count 10 = (preS s lv).length + (cluL (preS s lv)).length) ∧
    ∀ l : List St, ∀ d m lv, vL l → (stL pr d m l).all isTx = true ∧ (stL pr d m l).count 10 = (preL l lv).length + (cluL (preL l lv)).length := by
  refine st_ind (fun kd n r a b hb d m lv hv => ?_) (fun d m lv _ => ⟨rfl, rfl⟩) (fun s t ih1 ih2 d m lv hv => ?_)
  · have hvals := hv.vals
    have hatt := hv.att
    have hbody := hv.body
    have hf := hv.form
    clear hv
    cases hf with
    | node n a hn hk =>
      have e : stS pr d m (.mk 1 n [] a []) = (List.replicate m 32 ++ (n ++ (aft pr a ++ [59]))) ++ [10] := by simp [stS]
      rw [e]
      refine line_of ?_
      simp only [List.all_append]
      rw [rep_pl, nm_pl hn, aft_pl (pr := pr) (l := a) (hatt (show (1 : Int) ≠ 4 by decide))]; rfl
    | edge r r2 q a hr hk =>
      have e : stS pr d m (.mk 2 [] (r :: r2 :: q) a []) = (List.replicate m 32 ++ (refS d (r :: r2 :: q) ++ (aft pr a ++ [59]))) ++ [10] := by simp [stS]
      rw [e]
      refine line_of ?_
      simp only [List.all_append]
      rw [rep_pl, refS_pl d hr, aft_pl (pr := pr) (l := a) (hatt (show (2 : Int) ≠ 4 by decide))]; rfl
    | dflt n a hn hk =>
      have e : stS pr d m (.mk 3 n [] a []) = (List.replicate m 32 ++ (n ++ (32 :: ((if a.isEmpty then [91, 93] else attS pr a) ++ [59])))) ++ [10] := by simp [stS]
      rw [e]
      have h2 : ((if a.isEmpty then [91, 93] else attS pr a) : List UInt8).all isPl = true := by
        split
        · decide
        · exact attS_pl (hatt (show (3 : Int) ≠ 4 by decide))
      have h3 : n.all isPl = true := by rcases hn with rfl | rfl <;> decide
      refine line_of ?_
      simp only [List.all_append, List.all_cons]
      rw [rep_pl, h2, h3]; rfl
    | sset n v hn =>
      have e : stS pr d m (.mk 4 n [] [([], v)] []) = (List.replicate m 32 ++ (wSet ++ (32 :: (n ++ (32 :: 61 :: 32 :: (valS pr v ++ [59])))))) ++ [10] := by simp [stS]
      rw [e]
      have h2 := val_pl (pr := pr) (hvals ([], v) (by simp [St.attrs])).2
      refine line_of ?_
      simp only [List.all_append, List.all_cons]
      rw [rep_pl, nm_pl hn, h2]; rfl
    | clus n b hn =>
      have e : stS pr d m (.mk 5 n [] [] b) = ((List.replicate m 32 ++ (wClu ++ (32 :: (n ++ [32, 123])))) ++ [10]) ++ (stL pr d (m + 4) b ++ ((List.replicate m 32 ++ [125]) ++ [10])) := by simp [stS]
      rw [e]
      obtain ⟨a1, a2⟩ := line_of (p := List.replicate m 32 ++ (wClu ++ (32 :: (n ++ [32, 123])))) (by
        simp only [List.all_append, List.all_cons]
        rw [rep_pl, nm_pl hn]; rfl)
      obtain ⟨b1, b2⟩ := line_of (p := List.replicate m 32 ++ [125]) (by
        rw [List.all_append, rep_pl]; rfl)
      obtain ⟨c1, c2⟩ := hb d (m + 4) (lv + 1) hbody
      refine ⟨app_tx a1 (app_tx c1 b1), ?_⟩
      rw [app_cnt a2 (app_cnt c2 b2), preS_eq]
      show _ = ((St.mk 5 n [] [] b, lv) :: preL b (lv + 1)).length + (cluL ((St.mk 5 n [] [] b, lv) :: preL b (lv + 1))).length
      unfold cluL
      rw [List.flatMap_cons, List.length_cons, List.length_append]
      show _ = _ + (1 + _)
      omega
  · obtain ⟨a1, a2⟩ := ih1 d m lv hv.cons.1
    obtain ⟨b1, b2⟩ := ih2 d m lv hv.cons.2
    simp only [stL]
    refine ⟨app_tx a1 b1, ?_⟩
    rw [app_cnt a2 b2, preL_cons]
    unfold cluL
    rw [List.flatMap_append, List.length_append, List.length_append]
    omega
/-- P8.3, first half: the bytes of the text, and its lines. -/
theorem txt_lines {T : Tr} (h : validT T = 0) : (txtT pr T).all isTx = true ∧ (txtT pr T).count 10 = 2 + cnt T.body + (clustersT T).length := by
  obtain ⟨hn, _, hv⟩ := (valid_iff T).1 h
  have e : txtT pr T = ((wDir T.dir ++ (32 :: (T.name ++ [32, 123]))) ++ [10]) ++ (stL pr T.dir 4 T.body ++ ([125] ++ [10])) := by simp [txtT]
  obtain ⟨a1, a2⟩ := line_of (p := wDir T.dir ++ (32 :: (T.name ++ [32, 123]))) (by
    simp only [List.all_append, List.all_cons]
    rw [nm_pl hn]
    cases T.dir <;> rfl)
  obtain ⟨b1, b2⟩ := line_of (p := [125]) (by decide)
  obtain ⟨c1, c2⟩ := (st_lines (pr := pr)).2 T.body T.dir 4 0 ⟨0, hv⟩
  rw [e]
  refine ⟨app_tx a1 (app_tx c1 b1), ?_⟩
  rw [app_cnt a2 (app_cnt c2 b2)]
  unfold clustersT cnt
  rw [if_pos h]
  omega
end
end Go.Proofs.YtgccheiemnpaoaaGreatDoor.prt
namespace Go.Proofs.YtgccheiemnpaoaaGreatDoor.par
open lex tre prt

section
variable {pr : List UInt8 → Int × Int}
/-- A token without its line. -/
def tk0 (t : Tok) : Tok := ⟨t.kind, t.text, t.num, 0⟩
/-- The tokens of a text, from any line on. -/
def E (pr : List UInt8 → Int × Int) (K : List Tok) (l : List UInt8) : Prop := ∀ line, ∃ L, tkz pr l line false = (L, 0, 0) ∧ L.map tk0 = K
theorem E.nil : E pr [] [] := fun line => ⟨[], by rw [tkz_nil], rfl⟩
theorem E.lf {K : List Tok} {l : List UInt8} (h : E pr K l) : E pr K (10 :: l) := fun line => by rw [tkz_lf pr 10 l line false (by decide)]; exact h _
theorem E.sp {K : List Tok} {l : List UInt8} (h : E pr K l) : E pr K (32 :: l) := fun line => by rw [tkz_skip pr 32 l line false (by decide) (by decide)]; exact h _
theorem E.sps {K : List Tok} {l : List UInt8} (h : E pr K l) (m : Nat) : E pr K (List.replicate m 32 ++ l) := by
  induction m with
  | zero => exact h
  | succ m ih => rw [List.replicate_succ]; exact ih.sp
theorem E.tok {K : List Tok} {w l : List UInt8} {t : Tok} (h : E pr K l) (hw : w ≠ []) (h1 : oneL pr (w ++ l) = (t, w.length, 0)) (ht : t.line = 0) : E pr (t :: K) (w ++ l) := fun line => by
  cases w with
  | nil => exact absurd rfl hw
  | cons c w =>
    rw [List.cons_append] at h1 ⊢
    have h2 : (oneL pr (c :: (w ++ l))).2.2 = 0 := by rw [h1]
    obtain ⟨s1, s2⟩ := oneL_start pr c (w ++ l) h2
    rw [tkz_tok pr c (w ++ l) line s1 s2 h2, h1]
    have e : (c :: (w ++ l)).drop (c :: w).length = l := by rw [← List.cons_append, List.drop_left]
    obtain ⟨L, hL, hm⟩ := h line
    refine ⟨{ t with line := line } :: L, ?_, ?_⟩
    · show comb _ (tkz pr ((c :: (w ++ l)).drop (c :: w).length) line false) = _
      rw [e, hL]; unfold comb; rw [if_neg (by simp)]
    · rw [List.map_cons, hm]
      obtain ⟨k, x, n, ln⟩ := t
      simp only at ht
      subst ht; rfl
def tkN (w : List UInt8) : Tok := ⟨1, w, 0, 0⟩
def tkK (w : List UInt8) : Tok := ⟨2, w, 0, 0⟩
def tkM (c : UInt8) : Tok := ⟨5, [c], 0, 0⟩
def tkA (d : Bool) : Tok := ⟨5, [45, if d then 62 else 45], 0, 0⟩
def tkV (pr : List UInt8 → Int × Int) (v : List UInt8) : Tok := if isNm v = true then tkN v else if (pr v).2 = 0 then ⟨3, [], (pr v).1, 0⟩ else ⟨4, v, 0, 0⟩
theorem E.nm {K : List Tok} {w u : List UInt8} {x : UInt8} (h : E pr K (x :: u)) (hw : isNm w = true) (hx : isWd x = false) : E pr (tkN w :: K) (w ++ x :: u) := by
  have hne := (nm_word hw).2
  simp only [isNm, Bool.and_eq_true, decide_eq_true_eq, Bool.not_eq_true'] at hw
  obtain ⟨⟨⟨h1, h2⟩, h3⟩, h4⟩ := hw
  have hp : 0 < w.length := List.length_pos_iff.2 hne
  have e : wordLen (w ++ x :: u) = w.length := by rw [wordLen_stop w u x hx, h2]
  have e2 : (w ++ x :: u).take w.length = w := List.take_left
  refine h.tok hne ?_ rfl
  unfold oneL
  rw [e, if_pos hp, e2, if_neg (by rw [h4]; simp), if_neg (by omega)]
  rfl
theorem E.kw {K : List Tok} {w u : List UInt8} {x : UInt8} (h : E pr K (x :: u)) (hw : isKw w = true) (hx : isWd x = false) : E pr (tkK w :: K) (w ++ x :: u) := by
  obtain ⟨h2, hp⟩ := kw_word hw
  have e : wordLen (w ++ x :: u) = w.length := by rw [wordLen_stop w u x hx, h2]
  have e2 : (w ++ x :: u).take w.length = w := List.take_left
  refine h.tok (List.length_pos_iff.1 hp) ?_ rfl
  unfold oneL
  rw [e, if_pos hp, e2, if_pos hw]
  rfl
theorem E.mk {K : List Tok} {u : List UInt8} (h : E pr K u) (c : UInt8) (hc : c ∈ [123, 125, 91, 93, 59, 44, 61, 58]) : E pr (tkM c :: K) (c :: u) := by
  have hm : isMk [c] = true := by
    simp only [List.mem_cons, List.not_mem_nil, or_false] at hc
    rcases hc with rfl | rfl | rfl | rfl | rfl | rfl | rfl | rfl <;> decide
  have w0 : wordLen (c :: u) = 0 := by
    simp only [List.mem_cons, List.not_mem_nil, or_false] at hc
    rcases hc with rfl | rfl | rfl | rfl | rfl | rfl | rfl | rfl <;> rfl
  have n0 : numLen (c :: u) = 0 := by
    simp only [List.mem_cons, List.not_mem_nil, or_false] at hc
    rcases hc with rfl | rfl | rfl | rfl | rfl | rfl | rfl | rfl <;> exact numLen_no (by decide) (by rintro ⟨q, -⟩; exact absurd q (by decide))
  have q0 : ¬ (c :: u).head? = some 34 := by
    simp only [List.mem_cons, List.not_mem_nil, or_false] at hc
    rcases hc with rfl | rfl | rfl | rfl | rfl | rfl | rfl | rfl <;> simp
  have t0 : ¬ (1 < (c :: u).length ∧ isMk ((c :: u).take 2) = true) := by
    rintro ⟨q1, q2⟩
    cases u with
    | nil => simp at q1
    | cons y u =>
      rw [show (c :: y :: u).take 2 = [c, y] from rfl, mk_no c hc y] at q2
      cases q2
  have e : oneL pr (c :: u) = (⟨5, [c], 0, 0⟩, 1, 0) := by
    unfold oneL
    rw [w0, n0, if_neg (by decide), if_neg (by decide), if_neg q0, if_neg t0, show (c :: u).take 1 = [c] from rfl, if_pos hm]
  exact h.tok (w := [c]) (t := tkM c) (by simp) (by rw [List.singleton_append, e]; rfl) rfl
theorem E.arrow {K : List Tok} {u : List UInt8} (h : E pr K u) (d : Bool) : E pr (tkA d :: K) (45 :: (if d then 62 else 45) :: u) := by
  have e : oneL pr (45 :: (if d then 62 else 45) :: u) = (⟨5, [45, if d then 62 else 45], 0, 0⟩, 2, 0) := by
    unfold oneL
    have w0 : wordLen (45 :: (if d then 62 else 45) :: u) = 0 := rfl
    have n0 : numLen (45 :: (if d then 62 else 45) :: u) = 0 := numLen_no (by decide) (by rintro ⟨-, q⟩; rw [List.head?_cons, Option.map_some, Option.some.injEq] at q; cases d <;> exact absurd q (by decide))
    have t0 : 1 < (45 :: (if d then 62 else 45) :: u : List UInt8).length ∧ isMk ((45 :: (if d then 62 else 45) :: u : List UInt8).take 2) = true := ⟨by simp, by cases d <;> rfl⟩
    rw [w0, n0, if_neg (by decide), if_neg (by decide), if_neg (by simp), if_pos t0]
    rfl
  exact h.tok (w := [45, if d then 62 else 45]) (t := tkA d) (by simp) (by rw [List.cons_append, List.singleton_append, e]; rfl) rfl
theorem E.num {K : List Tok} {v u : List UInt8} {x : UInt8} (h : E pr K (x :: u)) (hv : numForm v) (he : (pr v).2 = 0) (hx : isNb x = false) : E pr (⟨3, [], (pr v).1, 0⟩ :: K) (v ++ x :: u) := by
  have hne := (num_uq hv).2
  have hw : isWd x = false := by unfold isNb at hx; rw [Bool.or_eq_false_iff] at hx; exact hx.1
  have e1 : wordLen (v ++ x :: u) = 0 := by rw [wordLen_stop v u x hw, numForm_word hv]
  have e2 : numLen (v ++ x :: u) = v.length := by rw [numLen_stop v u x hne hx, numForm_len hv]
  have e3 : (v ++ x :: u).take v.length = v := List.take_left
  have hp : 0 < v.length := List.length_pos_iff.2 hne
  refine h.tok hne ?_ rfl
  unfold oneL
  rw [e1, e2, if_neg (by decide), if_pos hp, e3, he]
theorem E.quo {K : List Tok} {v u : List UInt8} (h : E pr K u) (h1 : v.length ≤ 32) (h2 : v.all isPl = true) : E pr (⟨4, v, 0, 0⟩ :: K) (quoL v ++ u) := by
  have e := strL_esc v [] 1 h2 (by simpa using h1)
  have e2 := strL_app u (escL v ++ [34]).length (escL v ++ [34]) [] 1 (Nat.le_refl _) (by rw [e])
  rw [e] at e2
  have w0 : wordLen (quoL v ++ u) = 0 := rfl
  have n0 : numLen (quoL v ++ u) = 0 := rfl
  have e3 : (quoL v ++ u).tail = escL v ++ [34] ++ u := rfl
  have q : (quoL v ++ u).head? = some 34 := rfl
  refine h.tok (by simp [quoL]) ?_ rfl
  unfold oneL
  rw [w0, n0, if_neg (by decide), if_neg (by decide), if_pos q, e3, e2]
  simp [quoL]; omega
theorem E.val (hp : ∀ l, (pr l).2 = 0 → numForm l) {K : List Tok} {v u : List UInt8} {x : UInt8} (h : E pr K (x :: u)) (h1 : v.length ≤ 32) (h2 : v.all isPl = true) (hx : isUq x = false) : E pr (tkV pr v :: K) (valS pr v ++ x :: u) := by
  have hn : isNb x = false := by unfold isUq at hx; rw [Bool.or_eq_false_iff] at hx; exact hx.1
  have hw : isWd x = false := by unfold isNb at hn; rw [Bool.or_eq_false_iff] at hn; exact hn.1
  unfold valS tkV
  split
  · rename_i hv; exact h.nm hv hw
  · split
    · rename_i hv; exact h.num (hp v hv) hv hn
    · exact h.quo h1 h2
/-- The tokens of attributes, references and statements. -/
def attK (pr : List UInt8 → Int × Int) (a : Pr) (K : List Tok) : List Tok := tkN a.1 :: tkM 61 :: tkV pr a.2 :: K
def attTK (pr : List UInt8 → Int × Int) : List Pr → List Tok → List Tok
  | [], K => tkM 93 :: K
  | a :: t, K => tkM 44 :: attK pr a (attTK pr t K)
def attSK (pr : List UInt8 → Int × Int) : List Pr → List Tok → List Tok
  | [], K => K
  | a :: t, K => tkM 91 :: attK pr a (attTK pr t K)
def prtK (p : List UInt8) (K : List Tok) : List Tok := if p.isEmpty then K else tkM 58 :: tkN p :: K
def refK (r : Pr) (K : List Tok) : List Tok := tkN r.1 :: prtK r.2 K
def refTK (d : Bool) : List Pr → List Tok → List Tok
  | [], K => K
  | r :: t, K => tkA d :: refK r (refTK d t K)
theorem E.att (hp : ∀ l, (pr l).2 = 0 → numForm l) {K : List Tok} {a : Pr} {u : List UInt8} {x : UInt8} (h : E pr K (x :: u)) (ha : isNm a.1 = true ∧ a.2.length ≤ 32 ∧ a.2.all isPl = true) (hx : isUq x = false) : E pr (attK pr a K) (attB pr a ++ x :: u) := by
  unfold attB
  rw [List.append_assoc, List.cons_append]
  exact ((h.val hp ha.2.1 ha.2.2 hx).mk 61 (by decide)).nm ha.1 (by decide)
theorem E.attT (hp : ∀ l, (pr l).2 = 0 → numForm l) {K : List Tok} {u : List UInt8} (h : E pr K u) : ∀ {l : List Pr}, attOk l → E pr (attTK pr l K) (attT pr l ++ u) := by
  intro l
  induction l with
  | nil => intro _; exact h.mk 93 (by decide)
  | cons a t ih =>
    intro hl
    have h2 := ih (fun y hy => hl y (List.mem_cons_of_mem _ hy))
    obtain ⟨x, q, e, hx⟩ := attT_head (pr := pr) t u
    rw [e] at h2
    simp only [prt.attT, List.cons_append, List.append_assoc]
    rw [e]
    exact ((h2.att hp (hl a (by simp)) hx).sp).mk 44 (by decide)
theorem E.attS (hp : ∀ l, (pr l).2 = 0 → numForm l) {K : List Tok} {u : List UInt8} (h : E pr K u) {l : List Pr} (hl : attOk l) : E pr (attSK pr l K) (attS pr l ++ u) := by
  cases l with
  | nil => exact h
  | cons a t =>
    have h2 := h.attT hp (l := t) (fun y hy => hl y (List.mem_cons_of_mem _ hy))
    obtain ⟨x, q, e, hx⟩ := attT_head (pr := pr) t u
    rw [e] at h2
    simp only [prt.attS, List.cons_append, List.append_assoc]
    rw [e]
    exact (h2.att hp (hl a (by simp)) hx).mk 91 (by decide)
theorem E.aft (hp : ∀ l, (pr l).2 = 0 → numForm l) {K : List Tok} {u : List UInt8} (h : E pr K u) {l : List Pr} (hl : attOk l) : E pr (attSK pr l K) (aft pr l ++ u) := by
  unfold prt.aft
  split
  · rename_i he
    have : l = [] := List.isEmpty_iff.1 he
    subst this; exact h
  · exact (h.attS hp hl).sp
theorem E.port {K : List Tok} {p u : List UInt8} (h : E pr K u) (hs : PStop u) (hw : p = [] ∨ isNm p = true) : E pr (prtK p K) (prtP p ++ u) := by
  unfold prtP prtK
  split
  · exact h
  · rename_i hp
    obtain ⟨x, q, rfl, hx, -⟩ := hs.cons
    rcases hw with rfl | hw
    · simp at hp
    · exact (h.nm hw hx).mk 58 (by decide)
theorem E.ref {K : List Tok} {d : Bool} {r : Pr} {t : List Pr} {u : List UInt8} (h : E pr K (refT d t ++ u)) (hs : RStop u) (hr : isNm r.1 = true ∧ (r.2 = [] ∨ isNm r.2 = true)) : E pr (refK r K) (r.1 ++ (prtP r.2 ++ (refT d t ++ u))) := by
  have h2 := h.port (refT_stop d t hs) hr.2
  obtain ⟨x, q, e, hx⟩ := prtP_head r.2 (refT_stop d t hs)
  rw [e] at h2 ⊢
  exact h2.nm hr.1 hx
theorem E.refT {K : List Tok} {d : Bool} {u : List UInt8} (h : E pr K u) (hs : RStop u) : ∀ {l : List Pr}, refOk l → E pr (refTK d l K) (refT d l ++ u) := by
  intro l
  induction l with
  | nil => intro _; exact h
  | cons r t ih =>
    intro hl
    have h2 := ih (fun y hy => hl y (List.mem_cons_of_mem _ hy))
    simp only [prt.refT, List.cons_append, List.append_assoc]
    exact ((h2.ref hs (hl r (by simp))).sp.arrow d).sp
mutual
def stK (pr : List UInt8 → Int × Int) (d : Bool) : St → List Tok → List Tok
  | .mk k n r a b, K =>
    if k = 1 then tkN n :: attSK pr a (tkM 59 :: K)
    else if k = 2 then (match r with
      | [] => attSK pr a (tkM 59 :: K)
      | r :: t => refK r (refTK d t (attSK pr a (tkM 59 :: K))))
    else if k = 3 then tkK n :: (if a.isEmpty then tkM 91 :: tkM 93 :: tkM 59 :: K else attSK pr a (tkM 59 :: K))
    else if k = 4 then tkK wSet :: tkN n :: tkM 61 :: tkV pr ((a.head?.map (·.2)).getD []) :: tkM 59 :: K
    else tkK wClu :: tkN n :: tkM 123 :: slK pr d b (tkM 125 :: K)
def slK (pr : List UInt8 → Int × Int) (d : Bool) : List St → List Tok → List Tok
  | [], K => K
  | s :: t, K => stK pr d s (slK pr d t K)
end
def txtK (pr : List UInt8 → Int × Int) (T : Tr) : List Tok := tkK (wDir T.dir) :: tkN T.name :: tkM 123 :: slK pr T.dir T.body [tkM 125]
theorem stm_E (hp : ∀ l, (pr l).2 = 0 → numForm l) : (∀ s : St, ∀ d m K u, vS s → E pr K u → E pr (stK pr d s K) (stS pr d m s ++ u)) ∧ ∀ l : List St, ∀ d m K u, vL l → E pr K u → E pr (slK pr d l K) (stL pr d m l ++ u) := by
  refine st_ind (fun kd n r a b hb d m K u hv hu => ?_) (fun d m K u _ hu => hu) (fun s t ih1 ih2 d m K u hv hu => ?_)
  · have hend : E pr (tkM 59 :: K) (59 :: 10 :: u) := hu.lf.mk 59 (by decide)
    have hvals := hv.vals
    have hatt := hv.att
    have hbody := hv.body
    have hf := hv.form
    clear hv
    cases hf with
    | node n a hn hk =>
      have e : stS pr d m (.mk 1 n [] a []) ++ u = List.replicate m 32 ++ (n ++ (aft pr a ++ 59 :: 10 :: u)) := by simp [stS]
      rw [e]
      have h2 := hend.aft hp (hatt (show (1 : Int) ≠ 4 by decide))
      obtain ⟨x, t, e2, hx⟩ := aft_head (pr := pr) a (10 :: u)
      change E pr (attSK pr a (tkM 59 :: K)) (aft pr a ++ 59 :: 10 :: u) at h2
      rw [e2] at h2 ⊢
      exact (h2.nm hn hx).sps m
    | edge r r2 q a hr hk =>
      have e : stS pr d m (.mk 2 [] (r :: r2 :: q) a []) ++ u = List.replicate m 32 ++ (r.1 ++ (prtP r.2 ++ (refT d (r2 :: q) ++ (aft pr a ++ 59 :: 10 :: u)))) := by simp [stS, refS]
      rw [e]
      have h2 : E pr (attSK pr a (tkM 59 :: K)) (aft pr a ++ 59 :: 10 :: u) := hend.aft hp (hatt (show (2 : Int) ≠ 4 by decide))
      have h3 := h2.refT (d := d) (aft_stop (pr := pr) a (10 :: u)) (l := r2 :: q) (fun y hy => hr y (List.mem_cons_of_mem _ hy))
      exact (h3.ref (aft_stop (pr := pr) a (10 :: u)) (hr r (by simp))).sps m
    | dflt n a hn hk =>
      have e : stS pr d m (.mk 3 n [] a []) ++ u = List.replicate m 32 ++ (n ++ 32 :: ((if a.isEmpty then [91, 93] else attS pr a) ++ 59 :: 10 :: u)) := by simp [stS]
      rw [e]
      have h2 : E pr (if a.isEmpty then tkM 91 :: tkM 93 :: tkM 59 :: K else attSK pr a (tkM 59 :: K)) ((if a.isEmpty then [91, 93] else attS pr a) ++ 59 :: 10 :: u) := by
        split
        · exact (hend.mk 93 (by decide)).mk 91 (by decide)
        · exact hend.attS hp (hatt (show (3 : Int) ≠ 4 by decide))
      exact (h2.sp.kw (w := n) (by rcases hn with rfl | rfl <;> decide) (by decide)).sps m
    | sset n v hn =>
      have e : stS pr d m (.mk 4 n [] [([], v)] []) ++ u = List.replicate m 32 ++ (wSet ++ 32 :: (n ++ 32 :: 61 :: 32 :: (valS pr v ++ 59 :: 10 :: u))) := by simp [stS]
      rw [e]
      obtain ⟨q1, q2⟩ := hvals ([], v) (by simp [St.attrs])
      have h2 := (((hend.val hp q1 q2 (by decide)).sp.mk 61 (by decide)).sp.nm hn (by decide)).sp
      exact (h2.kw (w := wSet) (by decide) (by decide)).sps m
    | clus n b hn =>
      have e : stS pr d m (.mk 5 n [] [] b) ++ u = List.replicate m 32 ++ (wClu ++ 32 :: (n ++ 32 :: 123 :: 10 :: (stL pr d (m + 4) b ++ (List.replicate m 32 ++ 125 :: 10 :: u)))) := by simp [stS]
      rw [e]
      have h1 : E pr (tkM 125 :: K) (List.replicate m 32 ++ 125 :: 10 :: u) := (hu.lf.mk 125 (by decide)).sps m
      have h2 := (((hb d (m + 4) _ _ hbody h1).lf.mk 123 (by decide)).sp.nm hn (by decide)).sp
      exact (h2.kw (w := wClu) (by decide) (by decide)).sps m
  · simp only [stL, List.append_assoc]
    exact ih1 d m _ _ hv.cons.1 (ih2 d m K u hv.cons.2 hu)
/-- The tokens of a valid tree's text. -/
theorem txt_E (hp : ∀ l, (pr l).2 = 0 → numForm l) {T : Tr} (h : validT T = 0) : E pr (txtK pr T) (txtT pr T) := by
  obtain ⟨hn, _, hv⟩ := (valid_iff T).1 h
  unfold txtT
  have h1 : E pr [tkM 125] [125, 10] := (E.nil.lf).mk 125 (by decide)
  have h2 := (((stm_E hp).2 T.body T.dir 4 _ _ ⟨0, hv⟩ h1).lf.mk 123 (by decide)).sp.nm hn (by decide)
  exact h2.sp.kw (w := wDir T.dir) (by cases T.dir <;> decide) (by decide)
end
end Go.Proofs.YtgccheiemnpaoaaGreatDoor.par
namespace Go.Proofs.YtgccheiemnpaoaaGreatDoor.par
open lex tre prt

/-- What reading leaves: a result and the tokens behind it, or an error at the first of the tokens that are left. -/
inductive Rz (α : Type) where
  | ok (a : α) (r : List Tok)
  | er (e : Int) (r : List Tok)
def Rz.bnd {α β : Type} : Rz α → (α → List Tok → Rz β) → Rz β
  | .ok a r, f => f a r
  | .er e r, _ => .er e r
theorem bnd_ok {α β : Type} (a : α) (r : List Tok) (f : α → List Tok → Rz β) : (Rz.ok a r).bnd f = f a r := rfl
theorem bnd_er {α β : Type} (e : Int) (r : List Tok) (f : α → List Tok → Rz β) : (Rz.er e r : Rz α).bnd f = .er e r := rfl
/-- Whether the next token has a kind and a text. -/
def isT (k : Int) (c : List UInt8) : List Tok → Bool
  | [] => false
  | t :: _ => decide (t.kind = k) && decide (t.text = c)
def wantM (c : List UInt8) (l : List Tok) : Rz Unit := if isT 5 c l then .ok () l.tail else .er 4 l
def nameR : List Tok → Rz (List UInt8)
  | [] => .er 4 []
  | t :: r => if t.kind = 1 then .ok t.text r else .er 4 (t :: r)
section
variable (fm : Int → List UInt8)
def valR : List Tok → Rz (List UInt8)
  | [] => .er 4 []
  | t :: r => if t.kind = 1 ∨ t.kind = 4 then .ok t.text r else if t.kind = 3 then .ok (fm t.num) r else .er 4 (t :: r)
def attR (l : List Tok) : Rz Pr := (nameR l).bnd fun k l => (wantM [61] l).bnd fun _ l => (valR fm l).bnd fun v l => .ok (k, v) l
def attrsF : Nat → List Tok → Rz (List Pr)
  | 0, l => .er 4 l
  | n + 1, l => (attR fm l).bnd fun a l => if isT 5 [44] l then (attrsF n l.tail).bnd fun as l => .ok (a :: as) l else (wantM [93] l).bnd fun _ l => .ok [a] l
def attrsR (l : List Tok) : Rz (List Pr) := (wantM [91] l).bnd fun _ l => if isT 5 [93] l then .ok [] l.tail else attrsF fm (l.length + 1) l
def refR (l : List Tok) : Rz Pr := (nameR l).bnd fun n l => if isT 5 [58] l then (nameR l.tail).bnd fun p l => .ok (n, p) l else .ok (n, []) l
def arrow (d : Bool) : List UInt8 := [45, if d then 62 else 45]
def refsF (d : Bool) : Nat → List Tok → Rz (List Pr)
  | 0, l => .ok [] l
  | n + 1, l => if isT 5 (arrow d) l then (refR l.tail).bnd fun r l => (refsF d n l).bnd fun rs l => .ok (r :: rs) l else .ok [] l
def optR (l : List Tok) : Rz (List Pr) := if isT 5 [91] l then attrsR fm l else .ok [] l
def chainR (d : Bool) (l : List Tok) : Rz St := (refR l).bnd fun f l =>
  if f.2 ≠ [] ∨ isT 5 (arrow d) l = true then (wantM (arrow d) l).bnd fun _ l => (refR l).bnd fun r l => (refsF d (l.length + 1) l).bnd fun rs l => (optR fm l).bnd fun a l => (wantM [59] l).bnd fun _ l => .ok (.mk 2 [] (f :: r :: rs) a []) l
  else (optR fm l).bnd fun a l => (wantM [59] l).bnd fun _ l => .ok (.mk 1 f.1 [] a []) l
mutual
def stmtF (d : Bool) : Nat → Nat → List Tok → Rz St
  | 0, _, l => .er 4 l
  | n + 1, dep, l =>
    if isT 2 wNode l then (attrsR fm l.tail).bnd fun a l => (wantM [59] l).bnd fun _ l => .ok (.mk 3 wNode [] a []) l
    else if isT 2 wEdge l then (attrsR fm l.tail).bnd fun a l => (wantM [59] l).bnd fun _ l => .ok (.mk 3 wEdge [] a []) l
    else if isT 2 wSet l then (nameR l.tail).bnd fun x l => (wantM [61] l).bnd fun _ l => (valR fm l).bnd fun v l => (wantM [59] l).bnd fun _ l => .ok (.mk 4 x [] [([], v)] []) l
    else if isT 2 wClu l then (nameR l.tail).bnd fun x l => if isT 5 [123] l = true ∧ 6 ≤ dep then .er 2 l else (wantM [123] l).bnd fun _ l => (stmtsF d n (dep + 1) l).bnd fun b l => .ok (.mk 5 x [] [] b) l
    else chainR fm d l
def stmtsF (d : Bool) : Nat → Nat → List Tok → Rz (List St)
  | 0, _, l => .er 4 l
  | n + 1, dep, l => if isT 5 [125] l then .ok [] l.tail else (stmtF d n dep l).bnd fun s l => (stmtsF d n dep l).bnd fun t l => .ok (s :: t) l
end
def endR {α : Type} (x : Rz α) : Rz α := x.bnd fun a l => if l.isEmpty then .ok a l else .er 4 l
def treeR (l : List Tok) : Rz Tr :=
  if isT 2 (wDir true) l = true ∨ isT 2 (wDir false) l = true then (nameR l.tail).bnd fun x l' => (wantM [123] l').bnd fun _ l' => (stmtsF fm (isT 2 (wDir true) l) (l'.length + 1) 0 l').bnd fun b l' => .ok ⟨x, isT 2 (wDir true) l, b⟩ l'
  else .er 4 l

/-! ### Reading what was printed -/
theorem isT_cons (k : Int) (c : List UInt8) (t : Tok) (r : List Tok) : isT k c (t :: r) = (decide (t.kind = k) && decide (t.text = c)) := rfl
theorem want_M (c : UInt8) (K : List Tok) : wantM [c] (tkM c :: K) = .ok () K := by unfold wantM; rw [isT_cons]; simp [tkM]
theorem want_A (d : Bool) (K : List Tok) : wantM (arrow d) (tkA d :: K) = .ok () K := by unfold wantM; rw [isT_cons]; simp [tkA, arrow]
theorem isT_M (c x : UInt8) (K : List Tok) : isT 5 [c] (tkM x :: K) = decide (x = c) := by rw [isT_cons]; simp [tkM]
theorem isT_A (c : UInt8) (d : Bool) (K : List Tok) : isT 5 [c] (tkA d :: K) = false := by rw [isT_cons]; simp [tkA]
theorem isA_A (d : Bool) (K : List Tok) : isT 5 (arrow d) (tkA d :: K) = true := by rw [isT_cons]; simp [tkA, arrow]
theorem isA_M (d : Bool) (x : UInt8) (K : List Tok) : isT 5 (arrow d) (tkM x :: K) = false := by rw [isT_cons]; simp [tkM, arrow]
theorem isT_N (c w : List UInt8) (K : List Tok) : isT 5 c (tkN w :: K) = false := by rw [isT_cons]; simp [tkN]
theorem isK_N (c w : List UInt8) (K : List Tok) : isT 2 c (tkN w :: K) = false := by rw [isT_cons]; simp [tkN]
theorem isK_K (c w : List UInt8) (K : List Tok) : isT 2 c (tkK w :: K) = decide (w = c) := by rw [isT_cons]; show (decide ((2 : Int) = 2) && decide (w = c)) = decide (w = c); rw [show decide ((2 : Int) = 2) = true from rfl, Bool.true_and]
theorem isT_K (c w : List UInt8) (K : List Tok) : isT 5 c (tkK w :: K) = false := by rw [isT_cons]; simp [tkK]
theorem name_N (w : List UInt8) (K : List Tok) : nameR (tkN w :: K) = .ok w K := rfl
section
variable {fm : Int → List UInt8} {pr : List UInt8 → Int × Int}
theorem val_V (hc : ∀ v, (pr v).2 = 0 → fm (pr v).1 = v) (v : List UInt8) (K : List Tok) : valR fm (tkV pr v :: K) = .ok v K := by
  unfold tkV
  split
  · rfl
  · split
    · rename_i h; show Rz.ok (fm (pr v).1) K = _; rw [hc v h]
    · rfl
theorem att_K (hc : ∀ v, (pr v).2 = 0 → fm (pr v).1 = v) (a : Pr) (K : List Tok) : attR fm (attK pr a K) = .ok a K := by
  unfold attR attK
  rw [name_N, bnd_ok, want_M, bnd_ok, val_V hc]; rfl
theorem attT_K (hc : ∀ v, (pr v).2 = 0 → fm (pr v).1 = v) : ∀ (l : List Pr) (a : Pr) (K : List Tok) (n : Nat), l.length < n → attrsF fm n (attK pr a (attTK pr l K)) = .ok (a :: l) K := by
  intro l
  induction l with
  | nil =>
    intro a K n hn
    obtain ⟨n, rfl⟩ : ∃ m, n = m + 1 := ⟨n - 1, by omega⟩
    unfold attrsF
    rw [att_K hc, bnd_ok]
    show (if isT 5 [44] (tkM 93 :: K) = true then _ else (wantM [93] (tkM 93 :: K)).bnd _) = _
    rw [isT_M, if_neg (by decide), want_M]; rfl
  | cons b t ih =>
    intro a K n hn
    rw [List.length_cons] at hn
    obtain ⟨n, rfl⟩ : ∃ m, n = m + 1 := ⟨n - 1, by omega⟩
    unfold attrsF
    rw [att_K hc, bnd_ok]
    show (if isT 5 [44] (tkM 44 :: attK pr b (attTK pr t K)) = true then (attrsF fm n (attK pr b (attTK pr t K))).bnd _ else _) = _
    rw [isT_M, if_pos (by decide), ih b K n (by omega)]; rfl
theorem attTK_len (l : List Pr) (K : List Tok) : l.length ≤ (attTK pr l K).length := by
  induction l with
  | nil => exact Nat.zero_le _
  | cons a t ih => show t.length + 1 ≤ (tkM 44 :: attK pr a (attTK pr t K)).length; unfold attK; simp only [List.length_cons]; omega
theorem attS_K (hc : ∀ v, (pr v).2 = 0 → fm (pr v).1 = v) {l : List Pr} (hl : l ≠ []) (K : List Tok) : attrsR fm (attSK pr l K) = .ok l K := by
  cases l with
  | nil => exact absurd rfl hl
  | cons a t =>
    unfold attrsR attSK
    rw [want_M, bnd_ok]
    rw [show isT 5 [93] (attK pr a (attTK pr t K)) = false from isT_N _ _ _, if_neg (by decide)]
    refine attT_K hc t a K _ ?_
    have := attTK_len (pr := pr) t K
    unfold attK
    simp only [List.length_cons]; omega
theorem isT_att (c : UInt8) (a : List Pr) (K : List Tok) (hc : c ≠ 91) (hk : c ≠ 59) : isT 5 [c] (attSK pr a (tkM 59 :: K)) = false := by
  cases a with
  | nil => show isT 5 [c] (tkM 59 :: K) = false; rw [isT_M]; simpa using Ne.symm hk
  | cons a t => show isT 5 [c] (tkM 91 :: _) = false; rw [isT_M]; simpa using Ne.symm hc
theorem isA_att (d : Bool) (a : List Pr) (K : List Tok) : isT 5 (arrow d) (attSK pr a (tkM 59 :: K)) = false := by
  cases a with
  | nil => exact isA_M _ _ _
  | cons a t => exact isA_M _ _ _
theorem opt_K (hc : ∀ v, (pr v).2 = 0 → fm (pr v).1 = v) (a : List Pr) (K : List Tok) : optR fm (attSK pr a (tkM 59 :: K)) = .ok a (tkM 59 :: K) := by
  unfold optR
  cases a with
  | nil => rw [show attSK pr [] (tkM 59 :: K) = tkM 59 :: K from rfl, isT_M, if_neg (by decide)]
  | cons b t =>
    rw [show isT 5 [91] (attSK pr (b :: t) (tkM 59 :: K)) = true from isT_M _ _ _, if_pos rfl]
    exact attS_K hc (by simp) _
theorem ref_K (r : Pr) (K : List Tok) (h : isT 5 [58] K = false) : refR (refK r K) = .ok r K := by
  obtain ⟨n, p⟩ := r
  unfold refR refK prtK
  rw [name_N, bnd_ok]
  cases p with
  | nil => simp only [List.isEmpty_nil, if_true]; rw [h, if_neg (by decide)]
  | cons x p => simp only [List.isEmpty_cons, Bool.false_eq_true, if_false]; rw [isT_M, if_pos (by decide)]; rfl
theorem isT_refT (d : Bool) (l : List Pr) (a : List Pr) (K : List Tok) : isT 5 [58] (refTK d l (attSK pr a (tkM 59 :: K))) = false := by
  cases l with
  | nil => exact isT_att _ _ _ (by decide) (by decide)
  | cons r t => exact isT_A _ _ _
theorem refT_K (d : Bool) (a : List Pr) (K : List Tok) : ∀ (l : List Pr) (n : Nat), l.length < n → refsF d n (refTK d l (attSK pr a (tkM 59 :: K))) = .ok l (attSK pr a (tkM 59 :: K)) := by
  intro l
  induction l with
  | nil =>
    intro n hn
    obtain ⟨n, rfl⟩ : ∃ m, n = m + 1 := ⟨n - 1, by omega⟩
    unfold refsF
    rw [show refTK d [] (attSK pr a (tkM 59 :: K)) = attSK pr a (tkM 59 :: K) from rfl, isA_att, if_neg (by decide)]
  | cons r t ih =>
    intro n hn
    rw [List.length_cons] at hn
    obtain ⟨n, rfl⟩ : ∃ m, n = m + 1 := ⟨n - 1, by omega⟩
    unfold refsF
    rw [show refTK d (r :: t) (attSK pr a (tkM 59 :: K)) = tkA d :: refK r (refTK d t (attSK pr a (tkM 59 :: K))) from rfl, isA_A, if_pos rfl, List.tail_cons, ref_K r _ (isT_refT d t a K), bnd_ok, ih n (by omega)]
    rfl
theorem refTK_len (d : Bool) (l : List Pr) (K : List Tok) : l.length ≤ (refTK d l K).length := by
  induction l with
  | nil => exact Nat.zero_le _
  | cons a t ih => show t.length + 1 ≤ (tkA d :: refK a (refTK d t K)).length; unfold refK prtK; split <;> simp only [List.length_cons] <;> omega
/-- The statement's fuel. -/
theorem sl_len (d : Bool) : (∀ s : St, vS s → ∀ K, 2 * cnt [s] + K.length ≤ (stK pr d s K).length) ∧ ∀ l : List St, vL l → ∀ K, 2 * cnt l + K.length ≤ (slK pr d l K).length := by
  have attSK_len : ∀ (l : List Pr) (K : List Tok), K.length ≤ (attSK pr l K).length := by
    intro l K
    have h : ∀ l : List Pr, K.length ≤ (attTK pr l K).length := by
      intro l
      induction l with
      | nil => exact Nat.le_succ _
      | cons a t ih => show K.length ≤ (tkM 44 :: attK pr a (attTK pr t K)).length; unfold attK; simp only [List.length_cons]; omega
    cases l with
    | nil => exact Nat.le_refl _
    | cons a t => show K.length ≤ (tkM 91 :: attK pr a (attTK pr t K)).length; have := h t; unfold attK; simp only [List.length_cons]; omega
  refine st_ind (fun kd n r a b hb hv K => ?_) (fun _ K => by rw [cnt_nil]; show _ ≤ K.length; omega) (fun s t h1 h2 hv K => ?_)
  · have hbody := hv.body
    have hf := hv.form
    have hk : ∀ b : List St, cnt [.mk kd n r a b] = 1 + cnt b := fun b => by rw [cnt_cons, cnt_nil]; rfl
    clear hv
    cases hf with
    | node n a hn hk =>
      have := attSK_len a (tkM 59 :: K)
      rw [cnt_cons, cnt_nil]
      show 2 * (1 + cnt [] + 0) + K.length ≤ (tkN n :: attSK pr a (tkM 59 :: K)).length
      rw [cnt_nil]; simp only [List.length_cons] at this ⊢; omega
    | edge r r2 q a hr hk =>
      have := attSK_len a (tkM 59 :: K)
      rw [cnt_cons, cnt_nil]
      show 2 * (1 + cnt [] + 0) + K.length ≤ (refK r (refTK d (r2 :: q) (attSK pr a (tkM 59 :: K)))).length
      have h2 : ∀ (l : List Pr) (M : List Tok), M.length ≤ (refTK d l M).length := by
        intro l M
        induction l with
        | nil => exact Nat.le_refl _
        | cons a t ih => show M.length ≤ (tkA d :: refK a (refTK d t M)).length; unfold refK prtK; split <;> simp only [List.length_cons] <;> omega
      have h3 := h2 (r2 :: q) (attSK pr a (tkM 59 :: K))
      have h4 : ∀ (r : Pr) (M : List Tok), M.length + 1 ≤ (refK r M).length := fun r M => by unfold refK prtK; split <;> simp only [List.length_cons] <;> omega
      have h5 := h4 r (refTK d (r2 :: q) (attSK pr a (tkM 59 :: K)))
      rw [cnt_nil]; simp only [List.length_cons] at this ⊢; omega
    | dflt n a hn hk =>
      have := attSK_len a (tkM 59 :: K)
      rw [cnt_cons, cnt_nil]
      show 2 * (1 + cnt [] + 0) + K.length ≤ (tkK n :: (if a.isEmpty then tkM 91 :: tkM 93 :: tkM 59 :: K else attSK pr a (tkM 59 :: K))).length
      rw [cnt_nil]; split <;> simp only [List.length_cons] at this ⊢ <;> omega
    | sset n v hn =>
      rw [cnt_cons, cnt_nil]
      show 2 * (1 + cnt [] + 0) + K.length ≤ (tkK wSet :: tkN n :: tkM 61 :: tkV pr v :: tkM 59 :: K).length
      rw [cnt_nil]; simp only [List.length_cons]; omega
    | clus n b hn =>
      rw [cnt_cons, cnt_nil]
      show 2 * (1 + cnt b + 0) + K.length ≤ (tkK wClu :: tkN n :: tkM 123 :: slK pr d b (tkM 125 :: K)).length
      have := hb hbody (tkM 125 :: K)
      simp only [List.length_cons] at this ⊢; omega
  · have e1 := h1 hv.cons.1 (slK pr d t K)
    have e2 := h2 hv.cons.2 K
    rw [cnt_cons]
    rw [cnt_cons, cnt_nil] at e1
    show _ ≤ (stK pr d s (slK pr d t K)).length
    omega
end
end
end Go.Proofs.YtgccheiemnpaoaaGreatDoor.par
namespace Go.Proofs.YtgccheiemnpaoaaGreatDoor.par
open lex tre prt

section
variable {fm : Int → List UInt8} {pr : List UInt8 → Int × Int}
theorem isT_ref2 (r : Pr) (M : List Tok) (c : List UInt8) : isT 2 c (refK r M) = false := isK_N _ _ _
theorem stm_back (hc : ∀ v, (pr v).2 = 0 → fm (pr v).1 = v) :
    (∀ s : St, ∀ (dep : Nat) d n K, (∀ x ∈ preS s (dep : Int), staE x.1 x.2 = 0) → 2 * cnt [s] ≤ n → stmtF fm d n dep (stK pr d s K) = .ok s K) ∧
    ∀ l : List St, ∀ (dep : Nat) d n K, (∀ x ∈ preL l (dep : Int), staE x.1 x.2 = 0) → 2 * cnt l < n → stmtsF fm d n dep (slK pr d l (tkM 125 :: K)) = .ok l K := by
  refine st_ind (fun kd nm r a b hb dep d n K hv hn => ?_) (fun dep d n K _ hn => ?_) (fun s t h1 h2 dep d n K hv hn => ?_)
  · have h0 := hv (.mk kd nm r a b, (dep : Int)) (by rw [preS_eq]; simp)
    have hf := form_of h0
    have hbd : ∀ x ∈ preL b (if kd = 5 then (dep : Int) + 1 else dep), staE x.1 x.2 = 0 := fun x hx => hv x (by rw [preS_eq]; exact List.mem_cons_of_mem _ hx)
    have hdp : kd = 5 → dep < 6 := by
      intro hk
      subst hk
      simp only at h0
      unfold staE at h0
      by_cases q1 : fldE (.mk 5 nm r a b) ≠ 0
      · rw [if_pos q1] at h0; exact absurd h0 q1
      · rw [if_neg q1] at h0
        by_cases q2 : (St.mk 5 nm r a b).kind = 5 ∧ 6 ≤ (dep : Int)
        · rw [if_pos q2] at h0; exact absurd h0 (by decide)
        · have q3 : ¬ 6 ≤ (dep : Int) := fun e => q2 ⟨rfl, e⟩
          omega
    rw [cnt_cons, cnt_nil] at hn
    obtain ⟨n, rfl⟩ : ∃ m, n = m + 1 := ⟨n - 1, by omega⟩
    cases hf with
    | node nm a hn' hk =>
      show stmtF fm d (n + 1) dep (tkN nm :: attSK pr a (tkM 59 :: K)) = _
      unfold stmtF
      rw [isK_N, isK_N, isK_N, isK_N, if_neg (by decide), if_neg (by decide), if_neg (by decide), if_neg (by decide)]
      unfold chainR refR
      rw [name_N, bnd_ok, isT_att 58 a K (by decide) (by decide), if_neg (by decide), bnd_ok, isA_att, if_neg (by simp), opt_K hc, bnd_ok, want_M, bnd_ok]
    | edge r r2 q a hr hk =>
      show stmtF fm d (n + 1) dep (refK r (tkA d :: refK r2 (refTK d q (attSK pr a (tkM 59 :: K))))) = _
      unfold stmtF
      rw [isT_ref2, isT_ref2, isT_ref2, isT_ref2, if_neg (by decide), if_neg (by decide), if_neg (by decide), if_neg (by decide)]
      unfold chainR
      rw [ref_K r _ (isT_A _ _ _), bnd_ok, isA_A, if_pos (Or.inr rfl), want_A, bnd_ok, ref_K r2 _ (isT_refT d q a K), bnd_ok, refT_K d a K q _ (by have := refTK_len d q (attSK pr a (tkM 59 :: K)); omega), bnd_ok, opt_K hc, bnd_ok, want_M, bnd_ok]
    | dflt nm a hn' hk =>
      show stmtF fm d (n + 1) dep (tkK nm :: (if a.isEmpty then tkM 91 :: tkM 93 :: tkM 59 :: K else attSK pr a (tkM 59 :: K))) = _
      have h2 : attrsR fm (if a.isEmpty then tkM 91 :: tkM 93 :: tkM 59 :: K else attSK pr a (tkM 59 :: K)) = .ok a (tkM 59 :: K) := by
        cases a with
        | nil =>
          show attrsR fm (tkM 91 :: tkM 93 :: tkM 59 :: K) = _
          unfold attrsR
          rw [want_M, bnd_ok, isT_M, if_pos (by decide)]; rfl
        | cons a t => exact attS_K (l := a :: t) hc (by simp) _
      unfold stmtF
      rw [isK_K, isK_K]
      rcases hn' with rfl | rfl
      · rw [if_pos (by decide), List.tail_cons, h2, bnd_ok, want_M, bnd_ok]
      · rw [if_neg (by decide), if_pos (by decide), List.tail_cons, h2, bnd_ok, want_M, bnd_ok]
    | sset nm v hn' =>
      show stmtF fm d (n + 1) dep (tkK wSet :: tkN nm :: tkM 61 :: tkV pr v :: tkM 59 :: K) = _
      unfold stmtF
      rw [isK_K, isK_K, isK_K, if_neg (by decide), if_neg (by decide), if_pos (by decide), List.tail_cons, name_N, bnd_ok, want_M, bnd_ok, val_V hc, bnd_ok, want_M, bnd_ok]
    | clus nm b hn' =>
      have hd := hdp rfl
      show stmtF fm d (n + 1) dep (tkK wClu :: tkN nm :: tkM 123 :: slK pr d b (tkM 125 :: K)) = _
      unfold stmtF
      rw [isK_K, isK_K, isK_K, isK_K, if_neg (by decide), if_neg (by decide), if_neg (by decide), if_pos (by decide), List.tail_cons, name_N, bnd_ok, if_neg (fun e => by omega), want_M, bnd_ok]
      rw [hb (dep + 1) d n K (by simpa using hbd) (by change 2 * (1 + cnt b + 0) ≤ n + 1 at hn; omega), bnd_ok]
  · obtain ⟨n, rfl⟩ : ∃ m, n = m + 1 := ⟨n - 1, by omega⟩
    show stmtsF fm d (n + 1) dep (tkM 125 :: K) = _
    unfold stmtsF
    rw [isT_M, if_pos (by decide)]; rfl
  · rw [cnt_cons] at hn
    have e1 : cnt [s] = 1 + cnt s.body := by rw [cnt_cons, cnt_nil]; rfl
    obtain ⟨n, rfl⟩ : ∃ m, n = m + 1 := ⟨n - 1, by omega⟩
    show stmtsF fm d (n + 1) dep (stK pr d s (slK pr d t (tkM 125 :: K))) = _
    have hs : ∀ x ∈ preS s (dep : Int), staE x.1 x.2 = 0 := fun x hx => hv x (by rw [preL_cons]; exact List.mem_append_left _ hx)
    have ht : ∀ x ∈ preL t (dep : Int), staE x.1 x.2 = 0 := fun x hx => hv x (by rw [preL_cons]; exact List.mem_append_right _ hx)
    have hno : isT 5 [125] (stK pr d s (slK pr d t (tkM 125 :: K))) = false := by
      have hf := form_of (hs (s, (dep : Int)) (by rw [preS_eq]; simp))
      cases hf with
      | node => exact isT_N _ _ _
      | edge => exact isT_N _ _ _
      | dflt => exact isT_K _ _ _
      | sset => exact isT_K _ _ _
      | clus => exact isT_K _ _ _
    unfold stmtsF
    rw [hno, if_neg (by decide), h1 dep d n _ hs (by omega), bnd_ok, h2 dep d n K ht (by omega), bnd_ok]
/-- The tokens of a valid tree's text are read as the tree. -/
theorem tree_back (hc : ∀ v, (pr v).2 = 0 → fm (pr v).1 = v) {T : Tr} (h : validT T = 0) : treeR fm (txtK pr T) = .ok T [] := by
  obtain ⟨hn, _, hv⟩ := (valid_iff T).1 h
  have hl := (sl_len (pr := pr) T.dir).2 T.body ⟨0, hv⟩ [tkM 125]
  unfold treeR txtK
  have hd : isT 2 (wDir true) (tkK (wDir T.dir) :: tkN T.name :: tkM 123 :: slK pr T.dir T.body [tkM 125]) = T.dir := by rw [isK_K]; cases T.dir <;> decide
  have hd2 : isT 2 (wDir false) (tkK (wDir T.dir) :: tkN T.name :: tkM 123 :: slK pr T.dir T.body [tkM 125]) = !T.dir := by rw [isK_K]; cases T.dir <;> decide
  rw [hd, hd2, if_pos (by cases T.dir <;> simp), List.tail_cons, name_N, bnd_ok, want_M, bnd_ok, (stm_back hc).2 T.body 0 T.dir _ [] hv (by simp only [List.length_cons, List.length_nil] at hl; omega), bnd_ok]

/-! ### Lines -/
def mapR {α : Type} (g : Tok → Tok) : Rz α → Rz α
  | .ok a r => .ok a (r.map g)
  | .er e r => .er e (r.map g)
def Keeps (g : Tok → Tok) : Prop := ∀ t, (g t).kind = t.kind ∧ (g t).text = t.text ∧ (g t).num = t.num
variable {g : Tok → Tok}
theorem map_bnd {α β : Type} {x : Rz α} {f f' : α → List Tok → Rz β} (h : ∀ a r, f' a (r.map g) = mapR g (f a r)) : (mapR g x).bnd f' = mapR g (x.bnd f) := by
  cases x with
  | ok a r => exact h a r
  | er e r => rfl
theorem isT_map (hg : Keeps g) (k : Int) (c : List UInt8) (l : List Tok) : isT k c (l.map g) = isT k c l := by
  cases l with
  | nil => rfl
  | cons t r => obtain ⟨h1, h2, _⟩ := hg t; rw [List.map_cons, isT_cons, isT_cons, h1, h2]
theorem tail_map (l : List Tok) : (l.map g).tail = l.tail.map g := by cases l <;> rfl
theorem want_map (hg : Keeps g) (c : List UInt8) (l : List Tok) : wantM c (l.map g) = mapR g (wantM c l) := by
  unfold wantM; rw [isT_map hg, tail_map]; split <;> rfl
theorem name_map (hg : Keeps g) (l : List Tok) : nameR (l.map g) = mapR g (nameR l) := by
  cases l with
  | nil => rfl
  | cons t r =>
    obtain ⟨h1, h2, _⟩ := hg t
    rw [List.map_cons]
    show (if (g t).kind = 1 then Rz.ok (g t).text (r.map g) else .er 4 (g t :: r.map g)) = mapR g (if t.kind = 1 then Rz.ok t.text r else .er 4 (t :: r))
    rw [h1, h2]; split <;> rfl
theorem val_map (hg : Keeps g) (l : List Tok) : valR fm (l.map g) = mapR g (valR fm l) := by
  cases l with
  | nil => rfl
  | cons t r =>
    obtain ⟨h1, h2, h3⟩ := hg t
    rw [List.map_cons]
    show (if (g t).kind = 1 ∨ (g t).kind = 4 then Rz.ok (g t).text (r.map g) else if (g t).kind = 3 then Rz.ok (fm (g t).num) (r.map g) else .er 4 (g t :: r.map g)) = mapR g (if t.kind = 1 ∨ t.kind = 4 then Rz.ok t.text r else if t.kind = 3 then Rz.ok (fm t.num) r else .er 4 (t :: r))
    rw [h1, h2, h3]
    split
    · rfl
    · split <;> rfl
theorem att_map (hg : Keeps g) (l : List Tok) : attR fm (l.map g) = mapR g (attR fm l) := by
  unfold attR
  rw [name_map hg]
  refine map_bnd (fun k l => ?_)
  rw [want_map hg]
  refine map_bnd (fun _ l => ?_)
  rw [val_map hg]
  exact map_bnd (fun v l => rfl)
theorem attrsF_map (hg : Keeps g) : ∀ (n : Nat) (l : List Tok), attrsF fm n (l.map g) = mapR g (attrsF fm n l) := by
  intro n
  induction n with
  | zero => intro l; rfl
  | succ n ih =>
    intro l
    unfold attrsF
    rw [att_map hg]
    refine map_bnd (fun a l => ?_)
    rw [isT_map hg, tail_map]
    split
    · rw [ih]; exact map_bnd (fun v l => rfl)
    · rw [want_map hg]; exact map_bnd (fun v l => rfl)
theorem attrs_map (hg : Keeps g) (l : List Tok) : attrsR fm (l.map g) = mapR g (attrsR fm l) := by
  unfold attrsR
  rw [want_map hg]
  refine map_bnd (fun a l => ?_)
  rw [isT_map hg, tail_map, List.length_map]
  split
  · rfl
  · exact attrsF_map hg _ _
theorem ref_map (hg : Keeps g) (l : List Tok) : refR (l.map g) = mapR g (refR l) := by
  unfold refR
  rw [name_map hg]
  refine map_bnd (fun a l => ?_)
  rw [isT_map hg, tail_map]
  split
  · rw [name_map hg]; exact map_bnd (fun v l => rfl)
  · rfl
theorem refsF_map (hg : Keeps g) (d : Bool) : ∀ (n : Nat) (l : List Tok), refsF d n (l.map g) = mapR g (refsF d n l) := by
  intro n
  induction n with
  | zero => intro l; rfl
  | succ n ih =>
    intro l
    unfold refsF
    rw [isT_map hg, tail_map]
    split
    · rw [ref_map hg]
      refine map_bnd (fun a l => ?_)
      rw [ih]; exact map_bnd (fun v l => rfl)
    · rfl
theorem opt_map (hg : Keeps g) (l : List Tok) : optR fm (l.map g) = mapR g (optR fm l) := by
  unfold optR
  rw [isT_map hg]
  split
  · exact attrs_map hg l
  · rfl
theorem chain_map (hg : Keeps g) (d : Bool) (l : List Tok) : chainR fm d (l.map g) = mapR g (chainR fm d l) := by
  unfold chainR
  rw [ref_map hg]
  refine map_bnd (fun f l => ?_)
  rw [isT_map hg]
  split
  · rw [want_map hg]
    refine map_bnd (fun _ l => ?_)
    rw [ref_map hg]
    refine map_bnd (fun r l => ?_)
    rw [List.length_map, refsF_map hg]
    refine map_bnd (fun rs l => ?_)
    rw [opt_map hg]
    refine map_bnd (fun a l => ?_)
    rw [want_map hg]
    exact map_bnd (fun v l => rfl)
  · rw [opt_map hg]
    refine map_bnd (fun a l => ?_)
    rw [want_map hg]
    exact map_bnd (fun v l => rfl)
theorem stm_map (hg : Keeps g) (d : Bool) : ∀ (n dep : Nat) (l : List Tok), stmtF fm d n dep (l.map g) = mapR g (stmtF fm d n dep l) ∧ stmtsF fm d n dep (l.map g) = mapR g (stmtsF fm d n dep l) := by
  intro n
  induction n with
  | zero => intro dep l; unfold stmtF stmtsF; exact ⟨rfl, rfl⟩
  | succ n ih =>
    intro dep l
    constructor
    · unfold stmtF
      rw [isT_map hg, isT_map hg, isT_map hg, isT_map hg, tail_map]
      split
      · rw [attrs_map hg]
        refine map_bnd (fun a l => ?_)
        rw [want_map hg]
        exact map_bnd (fun v l => rfl)
      · split
        · rw [attrs_map hg]
          refine map_bnd (fun a l => ?_)
          rw [want_map hg]
          exact map_bnd (fun v l => rfl)
        · split
          · rw [name_map hg]
            refine map_bnd (fun a l => ?_)
            rw [want_map hg]
            refine map_bnd (fun _ l => ?_)
            rw [val_map hg]
            refine map_bnd (fun v l => ?_)
            rw [want_map hg]
            exact map_bnd (fun v l => rfl)
          · split
            · rw [name_map hg]
              refine map_bnd (fun a l => ?_)
              rw [isT_map hg]
              split
              · rfl
              · rw [want_map hg]
                refine map_bnd (fun _ l => ?_)
                rw [(ih _ _).2]
                exact map_bnd (fun v l => rfl)
            · exact chain_map hg d l
    · unfold stmtsF
      rw [isT_map hg, tail_map]
      split
      · rfl
      · rw [(ih _ _).1]
        refine map_bnd (fun a l => ?_)
        rw [(ih _ _).2]
        exact map_bnd (fun v l => rfl)
theorem tree_map (hg : Keeps g) (l : List Tok) : treeR fm (l.map g) = mapR g (treeR fm l) := by
  unfold treeR
  rw [isT_map hg, isT_map hg, tail_map]
  split
  · rw [name_map hg]
    refine map_bnd (fun a l => ?_)
    rw [want_map hg]
    refine map_bnd (fun _ l => ?_)
    rw [List.length_map, (stm_map hg _ _ _ _).2]
    exact map_bnd (fun v l => rfl)
  · rfl
theorem end_map {α : Type} (x : Rz α) : endR (mapR g x) = mapR g (endR x) := by
  cases x with
  | ok a r => cases r <;> rfl
  | er e r => rfl
end
end Go.Proofs.YtgccheiemnpaoaaGreatDoor.par
