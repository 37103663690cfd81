/-
  Layer 8 (printer) as lists of bytes: the text of a tree, and that different valid trees have different texts (P8.4). No function of the program is named here; no condition.
  Different valid trees have different texts (P8.4), as lists of bytes. No function of the program is named here; no condition.
  Different valid trees have different texts (P8.4): statements and trees. No function of the program is named here; no condition.
  The text of a valid tree consists of tokens (P8.3, second half), as lists of bytes. No function of the program is named here; no condition.
  The text of a valid tree: tokens, bytes and lines (P8.3), as lists of bytes. No function of the program is named here; no condition.
  Layer 8, plain: how long texts are; attributes and references as joined lists. No condition.
-/
import Derived.Test.YtmpjdlhigmofdaaMTp
import Derived.Test.YtmpjdlhigmofdaaLexNum
import Derived.Test.YtmpjdlhigmofdaaRefLex2
import Derived.Lib.Join
namespace Go.Proofs.Ytmpjdlhigmofdaa.prt
open lex tre

section
variable (pr : List UInt8 → Int × Int)
def valS (v : List UInt8) : List UInt8 := if isNm v = true then v else if (pr v).2 = 0 then v else quoL v
def attB (a : Pr) : List UInt8 := a.1 ++ 61 :: valS pr a.2
def attT : List Pr → List UInt8
  | [] => [93]
  | a :: t => 44 :: 32 :: (attB pr a ++ attT t)
def attS : List Pr → List UInt8
  | [] => []
  | a :: t => 91 :: (attB pr a ++ attT pr t)
def aft (l : List Pr) : List UInt8 := if l.isEmpty then [] else 32 :: attS pr l
def prtP (p : List UInt8) : List UInt8 := if p.isEmpty then [] else 58 :: p
def refT (d : Bool) : List Pr → List UInt8
  | [] => []
  | r :: t => 32 :: 45 :: (if d then 62 else 45) :: 32 :: (r.1 ++ (prtP r.2 ++ refT d t))
def refS (d : Bool) : List Pr → List UInt8
  | [] => []
  | r :: t => r.1 ++ (prtP r.2 ++ refT d t)
def wSet : List UInt8 := [115, 101, 116]
def wClu : List UInt8 := [99, 108, 117, 115, 116, 101, 114]
mutual
def stS (d : Bool) (m : Nat) : St → List UInt8
  | .mk k n r a b =>
    List.replicate m 32 ++
    (if k = 1 then n ++ (aft pr a ++ [59, 10])
    else if k = 2 then refS d r ++ (aft pr a ++ [59, 10])
    else if k = 3 then n ++ 32 :: ((if a.isEmpty then [91, 93] else attS pr a) ++ [59, 10])
    else if k = 4 then wSet ++ 32 :: (n ++ 32 :: 61 :: 32 :: (valS pr ((a.head?.map (·.2)).getD []) ++ [59, 10]))
    else wClu ++ 32 :: (n ++ 32 :: 123 :: 10 :: (stL d (m + 4) b ++ (List.replicate m 32 ++ [125, 10]))))
def stL (d : Bool) (m : Nat) : List St → List UInt8
  | [] => []
  | s :: t => stS d m s ++ stL d m t
end
def wDir (d : Bool) : List UInt8 := if d then [100, 105, 103, 114, 97, 112, 104] else [103, 114, 97, 112, 104]
def txtT (T : Tr) : List UInt8 := wDir T.dir ++ 32 :: (T.name ++ 32 :: 123 :: 10 :: (stL pr T.dir 4 T.body ++ [125, 10]))
def prtT (T : Tr) : List UInt8 := if validT T = 0 then txtT pr T else []

/-! ### Words and values are read in one way -/
theorem span_inj {p : UInt8 → Bool} : ∀ {a b s t : List UInt8} {x y : UInt8}, a.all p = true → b.all p = true → p x = false → p y = false → a ++ x :: s = b ++ y :: t → a = b ∧ x = y ∧ s = t := by
  intro a
  induction a with
  | nil =>
    intro b s t x y _ hb hx _ h
    cases b with
    | nil => simp only [List.nil_append, List.cons.injEq] at h; exact ⟨rfl, h.1, h.2⟩
    | cons c b =>
      simp only [List.nil_append, List.cons_append, List.cons.injEq] at h
      rw [List.all_cons, Bool.and_eq_true, ← h.1, hx] at hb
      cases hb.1
  | cons c a ih =>
    intro b s t x y ha hb hx hy h
    rw [List.all_cons, Bool.and_eq_true] at ha
    cases b with
    | nil =>
      simp only [List.nil_append, List.cons_append, List.cons.injEq] at h
      rw [h.1, hy] at ha
      cases ha.1
    | cons c' b =>
      rw [List.all_cons, Bool.and_eq_true] at hb
      simp only [List.cons_append, List.cons.injEq] at h
      obtain ⟨e1, e2, e3⟩ := ih ha.2 hb.2 hx hy h.2
      exact ⟨by rw [h.1, e1], e2, e3⟩
theorem nm_word {l : List UInt8} (h : isNm l = true) : l.all isWd = true ∧ l ≠ [] := by
  unfold isNm at h
  simp only [Bool.and_eq_true, Bool.not_eq_true', decide_eq_true_eq] at h
  obtain ⟨⟨⟨h1, h2⟩, _⟩, _⟩ := h
  cases l with
  | nil => cases h1
  | cons c t =>
    refine ⟨?_, by simp⟩
    rw [wordLen_cons] at h2
    by_cases hc : isLet c = true
    · rw [if_pos hc, List.length_cons] at h2
      rw [List.all_cons, Bool.and_eq_true]
      refine ⟨by unfold isWd; rw [hc]; rfl, ?_⟩
      have e := takeWhile_take isWd t
      rw [show (t.takeWhile isWd).length = t.length by omega, List.take_length] at e
      have h3 := List.all_takeWhile (p := isWd) (l := t)
      rw [← e] at h3
      exact h3
    · rw [if_neg hc] at h2; simp at h2
/-- The bytes of a value that stands without quotes. -/
def isUq (c : UInt8) : Bool := isNb c || decide (c.toNat = 45)
theorem wd_uq {c : UInt8} (h : isWd c = true) : isUq c = true := by unfold isUq isNb; rw [h]; rfl
theorem nb_uq {c : UInt8} (h : isNb c = true) : isUq c = true := by unfold isUq; rw [h]; rfl
theorem all_mono {p q : UInt8 → Bool} {l : List UInt8} (h : l.all p = true) (hpq : ∀ c, p c = true → q c = true) : l.all q = true := by
  rw [List.all_eq_true] at h ⊢; exact fun x hx => hpq x (h x hx)
theorem dgt_nb {c : UInt8} (h : isDgt c = true) : isNb c = true := by unfold isNb isWd; rw [h]; simp
theorem num_uq {l : List UInt8} (h : numForm l) : l.all isUq = true ∧ l ≠ [] := by
  obtain ⟨c, t, h1, h2, h3⟩ := h
  have ht := all_mono h2 (fun c => nb_uq)
  have hc := nb_uq (dgt_nb h1)
  rcases h3 with rfl | rfl
  · exact ⟨by rw [List.all_cons, hc, ht]; rfl, by simp⟩
  · exact ⟨by rw [List.all_cons, List.all_cons, hc, ht]; rfl, by simp⟩
theorem esc_inj : ∀ {a b s t : List UInt8}, escL a ++ 34 :: s = escL b ++ 34 :: t → a = b ∧ s = t := by
  have step : ∀ (c : UInt8) (a : List UInt8), escL (c :: a) = if c.toNat = 34 ∨ c.toNat = 92 then 92 :: c :: escL a else c :: escL a := by
    intro c a
    unfold escL
    rw [List.flatMap_cons]
    split <;> rfl
  intro a
  induction a with
  | nil =>
    intro b s t h
    cases b with
    | nil => simp only [escL, List.flatMap_nil, List.nil_append, List.cons.injEq] at h; exact ⟨rfl, h.2⟩
    | cons c b =>
      rw [step] at h
      split at h
      · simp [escL] at h
      · rename_i hc
        simp only [escL, List.flatMap_nil, List.nil_append, List.cons_append, List.cons.injEq] at h
        rw [← h.1] at hc; exact absurd (Or.inl rfl) hc
  | cons x a ih =>
    intro b s t h
    cases b with
    | nil =>
      rw [step] at h
      split at h
      · simp [escL] at h
      · rename_i hc
        simp only [escL, List.flatMap_nil, List.nil_append, List.cons_append, List.cons.injEq] at h
        rw [h.1] at hc; exact absurd (Or.inl rfl) hc
    | cons y b =>
      rw [step, step] at h
      split at h
      · rename_i hx
        split at h
        · simp only [List.cons_append, List.cons.injEq, true_and] at h
          obtain ⟨e1, e2⟩ := ih h.2
          exact ⟨by rw [h.1, e1], e2⟩
        · rename_i hy
          simp only [List.cons_append, List.cons.injEq] at h
          rw [← h.1] at hy; exact absurd (Or.inr rfl) hy
      · rename_i hx
        split at h
        · simp only [List.cons_append, List.cons.injEq] at h
          rw [h.1] at hx; exact absurd (Or.inr rfl) hx
        · simp only [List.cons_append, List.cons.injEq] at h
          obtain ⟨e1, e2⟩ := ih h.2
          exact ⟨by rw [h.1, e1], e2⟩
variable {pr}
theorem val_form (hp : ∀ l, (pr l).2 = 0 → numForm l) (v : List UInt8) : (valS pr v = v ∧ v.all isUq = true ∧ v ≠ []) ∨ valS pr v = quoL v := by
  unfold valS
  split
  · rename_i h; exact Or.inl ⟨rfl, all_mono (nm_word h).1 (fun c => wd_uq), (nm_word h).2⟩
  · split
    · rename_i h; exact Or.inl ⟨rfl, num_uq (hp v h)⟩
    · exact Or.inr rfl
theorem uq_quote {v s t : List UInt8} {x : UInt8} (h1 : v.all isUq = true) (h2 : v ≠ []) (h : v ++ x :: s = 34 :: t) : False := by
  cases v with
  | nil => exact h2 rfl
  | cons c v =>
    simp only [List.cons_append, List.cons.injEq] at h
    rw [List.all_cons, Bool.and_eq_true, h.1] at h1
    exact absurd h1.1 (by decide)
theorem val_inj (hp : ∀ l, (pr l).2 = 0 → numForm l) {v v' s s' : List UInt8} {x x' : UInt8} (hx : isUq x = false) (hx' : isUq x' = false) (h : valS pr v ++ x :: s = valS pr v' ++ x' :: s') : v = v' ∧ x = x' ∧ s = s' := by
  rcases val_form hp v with ⟨e, h1, h2⟩ | e <;> rcases val_form hp v' with ⟨e', h1', h2'⟩ | e' <;> rw [e, e'] at h
  · exact span_inj h1 h1' hx hx' h
  · exact (uq_quote h1 h2 (by rw [h]; unfold quoL; rfl)).elim
  · exact (uq_quote h1' h2' (by rw [← h]; unfold quoL; rfl)).elim
  · unfold quoL at h
    simp only [List.cons_append, List.append_assoc, List.cons.injEq, true_and, List.nil_append] at h
    obtain ⟨e1, e2⟩ := esc_inj h
    simp only [List.cons.injEq] at e2
    exact ⟨e1, e2.1, e2.2⟩
end
end Go.Proofs.Ytmpjdlhigmofdaa.prt
namespace Go.Proofs.Ytmpjdlhigmofdaa.prt
open lex tre

section
variable {pr : List UInt8 → Int × Int}
theorem attB_inj (hp : ∀ l, (pr l).2 = 0 → numForm l) {a a' : Pr} {s s' : List UInt8} {x x' : UInt8} (ha : a.1.all isWd = true) (ha' : a'.1.all isWd = true) (hx : isUq x = false) (hx' : isUq x' = false) (h : attB pr a ++ x :: s = attB pr a' ++ x' :: s') : a = a' ∧ x = x' ∧ s = s' := by
  unfold attB at h
  simp only [List.append_assoc, List.cons_append] at h
  obtain ⟨e1, -, e2⟩ := span_inj ha ha' (by decide) (by decide) h
  obtain ⟨e3, e4, e5⟩ := val_inj hp hx hx' e2
  exact ⟨Prod.ext e1 e3, e4, e5⟩
def keysW (l : List Pr) : Prop := ∀ a ∈ l, a.1.all isWd = true
/-- What follows an attribute. -/
theorem attT_head (l : List Pr) (s : List UInt8) : ∃ x u, attT pr l ++ s = x :: u ∧ isUq x = false := by
  cases l with
  | nil => exact ⟨93, s, rfl, by decide⟩
  | cons a t => exact ⟨44, _, rfl, by decide⟩
theorem attT_inj (hp : ∀ l, (pr l).2 = 0 → numForm l) : ∀ {l l' : List Pr} {s s' : List UInt8}, keysW l → keysW l' → attT pr l ++ s = attT pr l' ++ s' → l = l' ∧ s = s' := by
  intro l
  induction l with
  | nil =>
    intro l' s s' _ _ h
    cases l' with
    | nil => simp only [attT, List.cons_append, List.nil_append, List.cons.injEq, true_and] at h; exact ⟨rfl, h⟩
    | cons a' t' => simp [attT] at h
  | cons a t ih =>
    intro l' s s' hk hk' h
    cases l' with
    | nil => simp [attT] at h
    | cons a' t' =>
      simp only [attT, List.cons_append, List.append_assoc, List.cons.injEq, true_and] at h
      obtain ⟨x, u, e, hx⟩ := attT_head (pr := pr) t s
      obtain ⟨x', u', e', hx'⟩ := attT_head (pr := pr) t' s'
      rw [e, e'] at h
      obtain ⟨e1, e2, e3⟩ := attB_inj hp (hk a (by simp)) (hk' a' (by simp)) hx hx' h
      obtain ⟨e4, e5⟩ := ih (fun y hy => hk y (List.mem_cons_of_mem _ hy)) (fun y hy => hk' y (List.mem_cons_of_mem _ hy)) (by rw [e, e', e2, e3])
      exact ⟨by rw [e1, e4], e5⟩
theorem attS_inj (hp : ∀ l, (pr l).2 = 0 → numForm l) {l l' : List Pr} {s s' : List UInt8} (hn : l ≠ []) (hn' : l' ≠ []) (hk : keysW l) (hk' : keysW l') (h : attS pr l ++ s = attS pr l' ++ s') : l = l' ∧ s = s' := by
  cases l with
  | nil => exact absurd rfl hn
  | cons a t =>
    cases l' with
    | nil => exact absurd rfl hn'
    | cons a' t' =>
      simp only [attS, List.cons_append, List.append_assoc, List.cons.injEq, true_and] at h
      refine attT_inj hp (l := a :: t) (l' := a' :: t') hk hk' ?_
      simp only [attT, List.cons_append, List.append_assoc, h]
/-- Attributes behind a name, up to the semicolon. -/
theorem aft_inj (hp : ∀ l, (pr l).2 = 0 → numForm l) {l l' : List Pr} {s s' : List UInt8} (hk : keysW l) (hk' : keysW l') (h : aft pr l ++ 59 :: s = aft pr l' ++ 59 :: s') : l = l' ∧ s = s' := by
  cases l with
  | nil =>
    cases l' with
    | nil => simp only [aft, List.isEmpty_nil, if_true, List.nil_append, List.cons.injEq, true_and] at h; exact ⟨rfl, h⟩
    | cons a' t' => simp [aft] at h
  | cons a t =>
    cases l' with
    | nil => simp [aft] at h
    | cons a' t' =>
      simp only [aft, List.isEmpty_cons, Bool.false_eq_true, if_false, List.cons_append, List.cons.injEq, true_and] at h
      obtain ⟨e1, e2⟩ := attS_inj hp (by simp) (by simp) hk hk' h
      simp only [List.cons.injEq, true_and] at e2
      exact ⟨e1, e2⟩
/-- The attributes of a default, up to the semicolon. -/
theorem dft_inj (hp : ∀ l, (pr l).2 = 0 → numForm l) {l l' : List Pr} {s s' : List UInt8} (hk : keysW l) (hk' : keysW l') (h : (if l.isEmpty then [91, 93] else attS pr l) ++ 59 :: s = (if l'.isEmpty then [91, 93] else attS pr l') ++ 59 :: s') : l = l' ∧ s = s' := by
  have key : ∀ {a : Pr} {t : List Pr} {s s' : List UInt8}, a.1.all isWd = true → [91, 93] ++ 59 :: s = attS pr (a :: t) ++ 59 :: s' → False := by
    intro a t s s' ha h
    simp only [attS, attB, List.cons_append, List.nil_append, List.append_assoc, List.cons.injEq, true_and] at h
    cases hq : a.1 with
    | nil => rw [hq] at h; simp at h
    | cons c u =>
      rw [hq] at h ha
      simp only [List.cons_append, List.cons.injEq] at h
      rw [List.all_cons, Bool.and_eq_true, ← h.1] at ha
      exact absurd ha.1 (by decide)
  cases l with
  | nil =>
    cases l' with
    | nil => simp only [List.isEmpty_nil, if_true, List.cons_append, List.nil_append, List.cons.injEq, true_and] at h; exact ⟨rfl, h⟩
    | cons a' t' => exact (key (hk' a' (by simp)) h).elim
  | cons a t =>
    cases l' with
    | nil => exact (key (hk a (by simp)) h.symm).elim
    | cons a' t' =>
      simp only [List.isEmpty_cons, Bool.false_eq_true, if_false] at h
      obtain ⟨e1, e2⟩ := attS_inj hp (by simp) (by simp) hk hk' h
      simp only [List.cons.injEq, true_and] at e2
      exact ⟨e1, e2⟩

/-! ### References -/
/-- Where the references end: a semicolon, or a space and a bracket. -/
def RStop (s : List UInt8) : Prop := (∃ u, s = 59 :: u) ∨ ∃ u, s = 32 :: 91 :: u
theorem aft_stop (l : List Pr) (s : List UInt8) : RStop (aft pr l ++ 59 :: s) := by
  cases l with
  | nil => exact Or.inl ⟨s, rfl⟩
  | cons a t => exact Or.inr ⟨_, by simp only [aft, attS, List.isEmpty_cons, Bool.false_eq_true, if_false, List.cons_append]; rfl⟩
/-- Behind a port. -/
def PStop (s : List UInt8) : Prop := (∃ u, s = 59 :: u) ∨ ∃ u, s = 32 :: u
theorem refT_stop (d : Bool) (l : List Pr) {s : List UInt8} (h : RStop s) : PStop (refT d l ++ s) := by
  cases l with
  | nil =>
    rcases h with ⟨u, rfl⟩ | ⟨u, rfl⟩
    · exact Or.inl ⟨u, rfl⟩
    · exact Or.inr ⟨_, rfl⟩
  | cons r t => exact Or.inr ⟨_, rfl⟩
theorem PStop.cons {s : List UInt8} (h : PStop s) : ∃ x u, s = x :: u ∧ isWd x = false ∧ x ≠ 58 := by
  rcases h with ⟨u, rfl⟩ | ⟨u, rfl⟩
  · exact ⟨_, _, rfl, by decide, by decide⟩
  · exact ⟨_, _, rfl, by decide, by decide⟩
theorem prtP_head (p : List UInt8) {s : List UInt8} (h : PStop s) : ∃ x u, prtP p ++ s = x :: u ∧ isWd x = false := by
  cases p with
  | nil => obtain ⟨x, u, e, h1, _⟩ := h.cons; exact ⟨x, u, e, h1⟩
  | cons c p => exact ⟨58, _, rfl, by decide⟩
theorem prtP_inj {p p' s s' : List UInt8} (hw : p.all isWd = true) (hw' : p'.all isWd = true) (hs : PStop s) (hs' : PStop s') (h : prtP p ++ s = prtP p' ++ s') : p = p' ∧ s = s' := by
  obtain ⟨x, u, rfl, h1, h2⟩ := hs.cons
  obtain ⟨x', u', rfl, h1', h2'⟩ := hs'.cons
  cases p with
  | nil =>
    cases p' with
    | nil => exact ⟨rfl, h⟩
    | cons c' p' =>
      simp only [prtP, List.isEmpty_nil, List.isEmpty_cons, if_true, Bool.false_eq_true, if_false, List.nil_append, List.cons_append, List.cons.injEq] at h
      exact absurd h.1 h2
  | cons c p =>
    cases p' with
    | nil =>
      simp only [prtP, List.isEmpty_nil, List.isEmpty_cons, if_true, Bool.false_eq_true, if_false, List.nil_append, List.cons_append, List.cons.injEq] at h
      exact absurd h.1.symm h2'
    | cons c' p' =>
      simp only [prtP, List.isEmpty_cons, Bool.false_eq_true, if_false, List.cons_append, List.cons.injEq, true_and] at h
      obtain ⟨e1, e2, e3⟩ := span_inj (a := c :: p) (b := c' :: p') (s := u) (t := u') hw hw' h1 h1' (by rw [List.cons_append, List.cons_append, h.1, h.2])
      exact ⟨e1, by rw [e2, e3]⟩
def refsW (l : List Pr) : Prop := ∀ a ∈ l, a.1.all isWd = true ∧ a.2.all isWd = true
theorem refW_inj {d : Bool} {r r' : Pr} {t t' : List Pr} {s s' : List UInt8} (hr : r.1.all isWd = true ∧ r.2.all isWd = true) (hr' : r'.1.all isWd = true ∧ r'.2.all isWd = true) (hs : RStop s) (hs' : RStop s') (h : r.1 ++ (prtP r.2 ++ (refT d t ++ s)) = r'.1 ++ (prtP r'.2 ++ (refT d t' ++ s'))) : r = r' ∧ refT d t ++ s = refT d t' ++ s' := by
  obtain ⟨x, u, e, hx⟩ := prtP_head r.2 (refT_stop d t hs)
  obtain ⟨x', u', e', hx'⟩ := prtP_head r'.2 (refT_stop d t' hs')
  rw [e, e'] at h
  obtain ⟨e1, e2, e3⟩ := span_inj hr.1 hr'.1 hx hx' h
  obtain ⟨e4, e5⟩ := prtP_inj hr.2 hr'.2 (refT_stop d t hs) (refT_stop d t' hs') (by rw [e, e', e2, e3])
  exact ⟨Prod.ext e1 e4, e5⟩
theorem refT_inj (d : Bool) : ∀ {l l' : List Pr} {s s' : List UInt8}, refsW l → refsW l' → RStop s → RStop s' → refT d l ++ s = refT d l' ++ s' → l = l' ∧ s = s' := by
  have key : ∀ {r : Pr} {t : List Pr} {s s' : List UInt8}, RStop s → s = refT d (r :: t) ++ s' → False := by
    rintro r t s s' (⟨u, rfl⟩ | ⟨u, rfl⟩) h <;> simp [refT] at h
  intro l
  induction l with
  | nil =>
    intro l' s s' _ _ hs hs' h
    cases l' with
    | nil => exact ⟨rfl, h⟩
    | cons r' t' => exact (key hs h).elim
  | cons r t ih =>
    intro l' s s' hk hk' hs hs' h
    cases l' with
    | nil => exact (key hs' h.symm).elim
    | cons r' t' =>
      simp only [refT, List.cons_append, List.append_assoc, List.cons.injEq, true_and] at h
      obtain ⟨e1, e2⟩ := refW_inj (hk r (by simp)) (hk' r' (by simp)) hs hs' h
      obtain ⟨e3, e4⟩ := ih (fun y hy => hk y (List.mem_cons_of_mem _ hy)) (fun y hy => hk' y (List.mem_cons_of_mem _ hy)) hs hs' e2
      exact ⟨by rw [e1, e3], e4⟩
end
end Go.Proofs.Ytmpjdlhigmofdaa.prt
namespace Go.Proofs.Ytmpjdlhigmofdaa.prt
open lex tre

theorem attL_keys {k : Int} (hk : k ≠ 4) : ∀ {l done : List Pr}, attL k done l = 0 → ∀ a ∈ l, isNm a.1 = true := by
  intro l
  induction l with
  | nil => intro done _ a ha; simp at ha
  | cons x t ih =>
    intro done h a ha
    unfold attL at h
    by_cases h1 : k ≠ 4 ∧ isNm x.1 = false
    · rw [if_pos h1] at h; exact absurd h (by decide)
    · rw [if_neg h1] at h
      have hx : isNm x.1 = true := by
        cases e : isNm x.1
        · exact absurd ⟨hk, e⟩ h1
        · rfl
      split at h
      · exact absurd h (by decide)
      · split at h
        · exact absurd h (by decide)
        · split at h
          · exact absurd h (by decide)
          · rcases List.mem_cons.1 ha with rfl | ha
            · exact hx
            · exact ih h a ha
/-- What a valid statement looks like. -/
inductive Form : St → Prop where
  | node (n a) : isNm n = true → keysW a → Form (.mk 1 n [] a [])
  | edge (r r2 t a) : (∀ x ∈ r :: r2 :: t, isNm x.1 = true ∧ (x.2 = [] ∨ isNm x.2 = true)) → keysW a → Form (.mk 2 [] (r :: r2 :: t) a [])
  | dflt (n a) : (n = wNode ∨ n = wEdge) → keysW a → Form (.mk 3 n [] a [])
  | sset (n v) : isNm n = true → Form (.mk 4 n [] [([], v)] [])
  | clus (n b) : isNm n = true → Form (.mk 5 n [] [] b)
theorem form_of {s : St} {lv : Int} (h : staE s lv = 0) : Form s := by
  unfold staE at h
  by_cases h1 : fldE s ≠ 0
  · rw [if_pos h1] at h; exact absurd h h1
  rw [if_neg h1] at h
  by_cases h2 : s.kind = 5 ∧ 6 ≤ lv
  · rw [if_pos h2] at h; exact absurd h (by decide)
  rw [if_neg h2] at h
  by_cases h3 : s.kind ≠ 2 ∧ s.kind ≠ 3 ∧ isNm s.name = false
  · rw [if_pos h3] at h; exact absurd h (by decide)
  rw [if_neg h3] at h
  by_cases h4 : s.refs.all refB = false
  · rw [if_pos h4] at h; exact absurd h (by decide)
  rw [if_neg h4] at h
  clear h2
  simp only [ne_eq, Decidable.not_not] at h1
  unfold fldE at h1
  by_cases f1 : s.kind < 1 ∨ 5 < s.kind
  · rw [if_pos f1] at h1; exact absurd h1 (by decide)
  rw [if_neg f1] at h1
  by_cases f2 : (s.kind = 2 ∧ s.name ≠ []) ∨ (s.kind ≠ 2 ∧ 0 < s.refs.length) ∨ (s.kind = 5 ∧ 0 < s.attrs.length) ∨ (s.kind ≠ 5 ∧ 0 < s.body.length)
  · rw [if_pos f2] at h1; exact absurd h1 (by decide)
  rw [if_neg f2] at h1
  by_cases f3 : (s.kind = 3 ∧ s.name ≠ wNode ∧ s.name ≠ wEdge) ∨ (s.kind = 2 ∧ s.refs.length < 2)
  · rw [if_pos f3] at h1; exact absurd h1 (by decide)
  rw [if_neg f3] at h1
  by_cases f4 : s.kind = 4 ∧ (s.attrs.length ≠ 1 ∨ (s.attrs.head?.map (·.1)) ≠ some [])
  · rw [if_pos f4] at h1; exact absurd h1 (by decide)
  clear h1
  unfold attE at h
  by_cases f5 : 16 < s.attrs.length
  · rw [if_pos f5] at h; exact absurd h (by decide)
  rw [if_neg f5] at h
  clear f5
  obtain ⟨k, n, r, a, b⟩ := s
  simp only [St.kind, St.name, St.refs, St.attrs, St.body] at h h3 h4 f1 f2 f3 f4
  have hr : k ≠ 2 → r = [] := fun e => by
    cases r with
    | nil => rfl
    | cons x t => exact absurd (Or.inr (Or.inl ⟨e, by simp⟩)) f2
  have hb : k ≠ 5 → b = [] := fun e => by
    cases b with
    | nil => rfl
    | cons x t => exact absurd (Or.inr (Or.inr (Or.inr ⟨e, by simp⟩))) f2
  have hn : k ≠ 2 → k ≠ 3 → isNm n = true := fun e e' => by
    cases q : isNm n
    · exact absurd ⟨e, e', q⟩ h3
    · rfl
  have hk : k ≠ 4 → keysW a := fun e x hx => by
    exact (nm_word (attL_keys e h x hx)).1
  have hc : k = 1 ∨ k = 2 ∨ k = 3 ∨ k = 4 ∨ k = 5 := by omega
  rcases hc with rfl | rfl | rfl | rfl | rfl
  · rw [hr (by decide), hb (by decide)]; exact .node n a (hn (by decide) (by decide)) (hk (by decide))
  · rw [hb (by decide)]
    have en : n = [] := by
      cases n with
      | nil => rfl
      | cons x t => exact absurd (Or.inl ⟨rfl, by simp⟩) f2
    rw [en]
    cases r with
    | nil => exact absurd (Or.inr ⟨rfl, by simp⟩) f3
    | cons r t =>
      cases t with
      | nil => exact absurd (Or.inr ⟨rfl, by simp⟩) f3
      | cons r2 t =>
        refine .edge r r2 t a (fun x hx => ?_) (hk (by decide))
        simp only [Bool.not_eq_false, List.all_eq_true] at h4
        have := h4 x hx
        unfold refB at this
        rw [Bool.and_eq_true, Bool.or_eq_true] at this
        exact ⟨this.1, this.2.imp (fun e => by simpa using e) id⟩
  · rw [hr (by decide), hb (by decide)]
    refine .dflt n a ?_ (hk (by decide))
    by_cases e : n = wNode
    · exact Or.inl e
    · by_cases e' : n = wEdge
      · exact Or.inr e'
      · exact absurd (Or.inl ⟨rfl, e, e'⟩) f3
  · rw [hr (by decide), hb (by decide)]
    cases a with
    | nil => exact absurd ⟨rfl, Or.inl (by simp)⟩ f4
    | cons x t =>
      cases t with
      | cons y t => exact absurd ⟨rfl, Or.inl (by simp)⟩ f4
      | nil =>
        obtain ⟨x, v⟩ := x
        cases x with
        | nil => exact .sset n v (hn (by decide) (by decide))
        | cons c x => exact absurd ⟨rfl, Or.inr (by simp)⟩ f4
  · rw [hr (by decide)]
    cases a with
    | nil => exact .clus n b (hn (by decide) (by decide))
    | cons x t => exact absurd (Or.inr (Or.inr (Or.inl ⟨rfl, by simp⟩))) f2

/-! ### Statements -/
section
variable {pr : List UInt8 → Int × Int}
/-- The lines of a statement: its first word and what follows it. -/
theorem head_of (d : Bool) (m : Nat) (u : List UInt8) {s : St} (h : Form s) : ∃ w x t, stS pr d m s ++ u = List.replicate m 32 ++ (w ++ x :: t) ∧ w.all isWd = true ∧ isWd x = false ∧
    ((∃ n a, s = .mk 1 n [] a [] ∧ keysW a ∧ isNm w = true ∧ w = n ∧ x :: t = aft pr a ++ 59 :: 10 :: u) ∨
     (∃ r r2 q a, s = .mk 2 [] (r :: r2 :: q) a [] ∧ refsW (r :: r2 :: q) ∧ keysW a ∧ isNm w = true ∧ w = r.1 ∧ x :: t = prtP r.2 ++ (refT d (r2 :: q) ++ (aft pr a ++ 59 :: 10 :: u))) ∨
     (∃ n a, s = .mk 3 n [] a [] ∧ keysW a ∧ w = n ∧ (w = wNode ∨ w = wEdge) ∧ x = 32 ∧ t = (if a.isEmpty then [91, 93] else attS pr a) ++ 59 :: 10 :: u) ∨
     (∃ n v, s = .mk 4 n [] [([], v)] [] ∧ isNm n = true ∧ w = wSet ∧ x = 32 ∧ t = n ++ 32 :: 61 :: 32 :: (valS pr v ++ 59 :: 10 :: u)) ∨
     (∃ n b, s = .mk 5 n [] [] b ∧ isNm n = true ∧ w = wClu ∧ x = 32 ∧ t = n ++ 32 :: 123 :: 10 :: (stL pr d (m + 4) b ++ (List.replicate m 32 ++ 125 :: 10 :: u)))) := by
  cases h with
  | node n a hn hk =>
    obtain ⟨x, t, e, hx⟩ : ∃ x t, aft pr a ++ 59 :: 10 :: u = x :: t ∧ isWd x = false := by
      rcases aft_stop (pr := pr) a (10 :: u) with ⟨q, e⟩ | ⟨q, e⟩
      · exact ⟨_, _, e, by decide⟩
      · exact ⟨_, _, e, by decide⟩
    refine ⟨n, x, t, ?_, (nm_word hn).1, hx, Or.inl ⟨n, a, rfl, hk, hn, rfl, e.symm⟩⟩
    rw [← e]; simp [stS]
  | edge r r2 q a hr hk =>
    have hw : refsW (r :: r2 :: q) := fun x hx => ⟨(nm_word (hr x hx).1).1, by
      rcases (hr x hx).2 with e | e
      · rw [e]; rfl
      · exact (nm_word e).1⟩
    obtain ⟨x, t, e, hx⟩ := prtP_head r.2 (refT_stop d (r2 :: q) (aft_stop (pr := pr) a (10 :: u)))
    refine ⟨r.1, x, t, ?_, (hw r (by simp)).1, hx, Or.inr (Or.inl ⟨r, r2, q, a, rfl, hw, hk, (hr r (by simp)).1, rfl, e.symm⟩)⟩
    rw [← e]; simp [stS, refS]
  | dflt n a hn hk =>
    refine ⟨n, 32, _, ?_, ?_, by decide, Or.inr (Or.inr (Or.inl ⟨n, a, rfl, hk, rfl, hn, rfl, rfl⟩))⟩
    · simp [stS]
    · rcases hn with rfl | rfl <;> decide
  | sset n v hn =>
    refine ⟨wSet, 32, _, ?_, by decide, by decide, Or.inr (Or.inr (Or.inr (Or.inl ⟨n, v, rfl, hn, rfl, rfl, rfl⟩)))⟩
    simp [stS]
  | clus n b hn =>
    refine ⟨wClu, 32, _, ?_, by decide, by decide, Or.inr (Or.inr (Or.inr (Or.inr ⟨n, b, rfl, hn, rfl, rfl, rfl⟩)))⟩
    simp [stS]
theorem rep_ne : ∀ {j m : Nat} {t v : List UInt8}, j < m → List.replicate j 32 ++ 125 :: t = List.replicate m 32 ++ v → False := by
  intro j
  induction j with
  | zero =>
    intro m t v hj h
    obtain ⟨m, rfl⟩ : ∃ k, m = k + 1 := ⟨m - 1, by omega⟩
    simp [List.replicate_succ] at h
  | succ j ih =>
    intro m t v hj h
    obtain ⟨m, rfl⟩ : ∃ k, m = k + 1 := ⟨m - 1, by omega⟩
    simp only [List.replicate_succ, List.cons_append, List.cons.injEq, true_and] at h
    exact ih (by omega) h
/-- Where the lines of a block end. -/
def LStop (m : Nat) (u : List UInt8) : Prop := ∃ j t, j < m ∧ u = List.replicate j 32 ++ 125 :: t
def vS (s : St) : Prop := ∃ lv, ∀ x ∈ preS s lv, staE x.1 x.2 = 0
def vL (l : List St) : Prop := ∃ lv, ∀ x ∈ preL l lv, staE x.1 x.2 = 0
theorem vS.form {s : St} (h : vS s) : Form s := by
  obtain ⟨lv, h⟩ := h
  exact form_of (h (s, lv) (by rw [preS_eq]; simp))
theorem vS.body {s : St} (h : vS s) : vL s.body := by
  obtain ⟨lv, h⟩ := h
  exact ⟨_, fun x hx => h x (by rw [preS_eq]; exact List.mem_cons_of_mem _ hx)⟩
theorem vL.cons {s : St} {t : List St} (h : vL (s :: t)) : vS s ∧ vL t := by
  obtain ⟨lv, h⟩ := h
  exact ⟨⟨lv, fun x hx => h x (by rw [preL_cons]; exact List.mem_append_left _ hx)⟩, ⟨lv, fun x hx => h x (by rw [preL_cons]; exact List.mem_append_right _ hx)⟩⟩
theorem st_inj (hp : ∀ l, (pr l).2 = 0 → numForm l) : (∀ s : St, ∀ s' d m u u', vS s → vS s' → stS pr d m s ++ u = stS pr d m s' ++ u' → s = s' ∧ u = u') ∧
    ∀ l : List St, ∀ l' d m u u', vL l → vL l' → LStop m u → LStop m u' → stL pr d m l ++ u = stL pr d m l' ++ u' → l = l' ∧ u = u' := by
  refine st_ind (fun k n r a b hb s' d m u u' hv hv' h => ?_) (fun l' d m u u' _ hv' hs hs' h => ?_) (fun s t ih1 ih2 l' d m u u' hv hv' hs hs' h => ?_)
  · obtain ⟨w, x, t, e, hw, hx, H⟩ := head_of (pr := pr) d m u hv.form
    obtain ⟨w', x', t', e', hw', hx', H'⟩ := head_of (pr := pr) d m u' hv'.form
    rw [e, e'] at h
    obtain ⟨rfl, rfl, rfl⟩ := span_inj hw hw' hx hx' (List.append_cancel_left h)
    clear e e' h hw hw' hx hx'
    have k1 : isNm wNode = false := by decide +kernel
    have k2 : isNm wEdge = false := by decide +kernel
    have k3 : isNm wSet = false := by decide +kernel
    have k4 : isNm wClu = false := by decide +kernel
    have nd : ∀ {a : List Pr} {r : List UInt8} {r2 : Pr} {q : List Pr} {u u2 : List UInt8}, aft pr a ++ 59 :: u = prtP r ++ (refT d (r2 :: q) ++ u2) → False := by
      intro a r r2 q u u2 h
      cases r with
      | nil => cases a <;> simp [aft, attS, prtP, refT] at h
      | cons c r => cases a <;> simp [aft, attS, prtP, refT] at h
    rcases H with ⟨n1, a1, e1, ka, nw, ew, ht⟩ | ⟨r1, r2, q1, a1, e1, kr, ka, nw, ew, ht⟩ | ⟨n1, a1, e1, ka, ew, nw, ex, ht⟩ | ⟨n1, v1, e1, nn, ew, ex, ht⟩ | ⟨n1, b1, e1, nn, ew, ex, ht⟩
    · rcases H' with ⟨n1', a1', e1', ka', nw', ew', ht'⟩ | ⟨r1', r2', q1', a1', e1', kr', ka', nw', ew', ht'⟩ | ⟨n1', a1', e1', ka', ew', nw', ex', ht'⟩ | ⟨n1', v1', e1', nn', ew', ex', ht'⟩ | ⟨n1', b1', e1', nn', ew', ex', ht'⟩
      · obtain ⟨e2, e3⟩ := aft_inj hp ka ka' (ht.symm.trans ht')
        simp only [List.cons.injEq, true_and] at e3
        exact ⟨by rw [e1, e1', ← ew, ← ew', e2], e3⟩
      · exact (nd (ht.symm.trans ht')).elim
      · rcases nw' with q | q <;> rw [q] at nw <;> simp_all
      · rw [ew', k3] at nw; cases nw
      · rw [ew', k4] at nw; cases nw
    · rcases H' with ⟨n1', a1', e1', ka', nw', ew', ht'⟩ | ⟨r1', r2', q1', a1', e1', kr', ka', nw', ew', ht'⟩ | ⟨n1', a1', e1', ka', ew', nw', ex', ht'⟩ | ⟨n1', v1', e1', nn', ew', ex', ht'⟩ | ⟨n1', b1', e1', nn', ew', ex', ht'⟩
      · exact (nd (ht'.symm.trans ht)).elim
      · obtain ⟨e2, e3⟩ := refW_inj (d := d) (kr r1 (by simp)) (kr' r1' (by simp)) (aft_stop (pr := pr) a1 (10 :: u)) (aft_stop (pr := pr) a1' (10 :: u')) (show r1.1 ++ _ = r1'.1 ++ _ by rw [← ht, ← ht', ← ew, ← ew'])
        obtain ⟨e4, e5⟩ := refT_inj d (fun y hy => kr y (List.mem_cons_of_mem _ hy)) (fun y hy => kr' y (List.mem_cons_of_mem _ hy)) (aft_stop (pr := pr) a1 (10 :: u)) (aft_stop (pr := pr) a1' (10 :: u')) e3
        obtain ⟨e6, e7⟩ := aft_inj hp ka ka' e5
        simp only [List.cons.injEq, true_and] at e7
        exact ⟨by rw [e1, e1', e2, e4, e6], e7⟩
      · rcases nw' with q | q <;> rw [q] at nw <;> simp_all
      · rw [ew', k3] at nw; cases nw
      · rw [ew', k4] at nw; cases nw
    · rcases H' with ⟨n1', a1', e1', ka', nw', ew', ht'⟩ | ⟨r1', r2', q1', a1', e1', kr', ka', nw', ew', ht'⟩ | ⟨n1', a1', e1', ka', ew', nw', ex', ht'⟩ | ⟨n1', v1', e1', nn', ew', ex', ht'⟩ | ⟨n1', b1', e1', nn', ew', ex', ht'⟩
      · rcases nw with q | q <;> rw [q] at nw' <;> simp_all
      · rcases nw with q | q <;> rw [q] at nw' <;> simp_all
      · obtain ⟨e2, e3⟩ := dft_inj hp ka ka' (ht.symm.trans ht')
        simp only [List.cons.injEq, true_and] at e3
        exact ⟨by rw [e1, e1', ← ew, ← ew', e2], e3⟩
      · rw [ew'] at nw; rcases nw with q | q <;> exact absurd q (by decide)
      · rw [ew'] at nw; rcases nw with q | q <;> exact absurd q (by decide)
    · rcases H' with ⟨n1', a1', e1', ka', nw', ew', ht'⟩ | ⟨r1', r2', q1', a1', e1', kr', ka', nw', ew', ht'⟩ | ⟨n1', a1', e1', ka', ew', nw', ex', ht'⟩ | ⟨n1', v1', e1', nn', ew', ex', ht'⟩ | ⟨n1', b1', e1', nn', ew', ex', ht'⟩
      · rw [ew, k3] at nw'; cases nw'
      · rw [ew, k3] at nw'; cases nw'
      · rw [ew] at nw'; rcases nw' with q | q <;> exact absurd q (by decide)
      · obtain ⟨e2, -, e3⟩ := span_inj (nm_word nn).1 (nm_word nn').1 (by decide) (by decide) (ht.symm.trans ht')
        simp only [List.cons.injEq, true_and] at e3
        obtain ⟨e4, -, e5⟩ := val_inj hp (by decide) (by decide) e3
        simp only [List.cons.injEq, true_and] at e5
        exact ⟨by rw [e1, e1', e2, e4], e5⟩
      · rw [ew] at ew'; exact absurd ew' (by decide)
    · rcases H' with ⟨n1', a1', e1', ka', nw', ew', ht'⟩ | ⟨r1', r2', q1', a1', e1', kr', ka', nw', ew', ht'⟩ | ⟨n1', a1', e1', ka', ew', nw', ex', ht'⟩ | ⟨n1', v1', e1', nn', ew', ex', ht'⟩ | ⟨n1', b1', e1', nn', ew', ex', ht'⟩
      · rw [ew, k4] at nw'; cases nw'
      · rw [ew, k4] at nw'; cases nw'
      · rw [ew] at nw'; rcases nw' with q | q <;> exact absurd q (by decide)
      · rw [ew] at ew'; exact absurd ew' (by decide)
      · obtain ⟨e2, -, e3⟩ := span_inj (nm_word nn).1 (nm_word nn').1 (by decide) (by decide) (ht.symm.trans ht')
        simp only [List.cons.injEq, true_and] at e3
        have vb := hv.body
        have vb' := hv'.body
        cases e1
        rw [e1'] at vb'
        obtain ⟨e4, e5⟩ := hb b1' d (m + 4) _ _ vb vb' ⟨m, _, by omega, rfl⟩ ⟨m, _, by omega, rfl⟩ e3
        have e6 := List.append_cancel_left e5
        simp only [List.cons.injEq, true_and] at e6
        exact ⟨by rw [e1', e2, e4], e6⟩
  · cases l' with
    | nil => exact ⟨rfl, h⟩
    | cons s' t' =>
      obtain ⟨j, t, hj, rfl⟩ := hs
      simp only [stL, List.nil_append, List.append_assoc] at h
      obtain ⟨w, x, q, e, -⟩ := head_of (pr := pr) d m (stL pr d m t' ++ u') (hv'.cons).1.form
      rw [e] at h
      exact (rep_ne hj h).elim
  · cases l' with
    | nil =>
      obtain ⟨j, q, hj, rfl⟩ := hs'
      simp only [stL, List.nil_append, List.append_assoc] at h
      obtain ⟨w, x, q, e, -⟩ := head_of (pr := pr) d m (stL pr d m t ++ u) (hv.cons).1.form
      rw [e] at h
      exact (rep_ne hj h.symm).elim
    | cons s' t' =>
      simp only [stL, List.append_assoc] at h
      obtain ⟨e1, e2⟩ := ih1 s' d m _ _ hv.cons.1 hv'.cons.1 h
      obtain ⟨e3, e4⟩ := ih2 t' d m u u' hv.cons.2 hv'.cons.2 hs hs' e2
      exact ⟨by rw [e1, e3], e4⟩
/-- P8.4. -/
theorem txt_inj (hp : ∀ l, (pr l).2 = 0 → numForm l) {A B : Tr} (ha : validT A = 0) (hb : validT B = 0) : txtT pr A = txtT pr B ↔ A = B := by
  refine ⟨fun h => ?_, fun h => by rw [h]⟩
  obtain ⟨na, ca, va⟩ := (valid_iff A).1 ha
  obtain ⟨nb, cb, vb⟩ := (valid_iff B).1 hb
  unfold txtT at h
  have hd : ∀ d : Bool, (wDir d).all isWd = true := by decide
  obtain ⟨e1, -, e2⟩ := span_inj (hd _) (hd _) (by decide) (by decide) h
  obtain ⟨e3, -, e4⟩ := span_inj (nm_word na).1 (nm_word nb).1 (by decide) (by decide) e2
  simp only [List.cons.injEq, true_and] at e4
  have ed : A.dir = B.dir := by
    revert e1
    cases A.dir <;> cases B.dir <;> decide
  rw [ed] at e4
  obtain ⟨e5, -⟩ := (st_inj hp).2 A.body B.body B.dir 4 _ _ ⟨0, va⟩ ⟨0, vb⟩ ⟨0, [10], by omega, rfl⟩ ⟨0, [10], by omega, rfl⟩ e4
  obtain ⟨n, d, b⟩ := A
  obtain ⟨n', d', b'⟩ := B
  simp only at e3 ed e5
  rw [e3, ed, e5]
end
end Go.Proofs.Ytmpjdlhigmofdaa.prt
namespace Go.Proofs.Ytmpjdlhigmofdaa.prt
open lex tre

section
variable {pr : List UInt8 → Int × Int}
/-- A text of at least k tokens, from any line on. -/
def G (pr : List UInt8 → Int × Int) (k : Nat) (l : List UInt8) : Prop := ∀ line, (tkz pr l line false).2.2 = 0 ∧ k ≤ (tkz pr l line false).1.length
theorem G.nil : G pr 0 [] := fun line => by rw [tkz_nil]; exact ⟨rfl, Nat.zero_le _⟩
theorem G.less {k j : Nat} {l : List UInt8} (h : G pr k l) (hj : j ≤ k) : G pr j l := fun line => ⟨(h line).1, Nat.le_trans hj (h line).2⟩
theorem G.lf {k : Nat} {l : List UInt8} (h : G pr k l) : G pr k (10 :: l) := fun line => by rw [tkz_lf pr 10 l line false (by decide)]; exact h _
theorem G.sp {k : Nat} {l : List UInt8} (h : G pr k l) : G pr k (32 :: l) := fun line => by rw [tkz_skip pr 32 l line false (by decide) (by decide)]; exact h _
theorem G.sps {k : Nat} {l : List UInt8} (h : G pr k l) (m : Nat) : G pr k (List.replicate m 32 ++ l) := by
  induction m with
  | zero => exact h
  | succ m ih => rw [List.replicate_succ]; exact ih.sp
theorem G.tok {k : Nat} {w l : List UInt8} (h : G pr k l) (hw : w ≠ []) (h1 : (oneL pr (w ++ l)).2.1 = w.length) (h2 : (oneL pr (w ++ l)).2.2 = 0) : G pr (k + 1) (w ++ l) := fun line => by
  cases w with
  | nil => exact absurd rfl hw
  | cons c w =>
    rw [List.cons_append] at h1 h2 ⊢
    obtain ⟨s1, s2⟩ := oneL_start pr c (w ++ l) h2
    rw [tkz_tok pr c (w ++ l) line s1 s2 h2, h1]
    have e : (c :: (w ++ l)).drop (c :: w).length = l := by rw [← List.cons_append, List.drop_left]
    rw [e]
    unfold comb
    rw [if_neg (by rw [(h line).1]; decide)]
    exact ⟨rfl, by rw [List.length_cons]; have := (h line).2; omega⟩
theorem G.nm {k : Nat} {w u : List UInt8} {x : UInt8} (h : G pr k (x :: u)) (hw : isNm w = true) (hx : isWd x = false) : G pr (k + 1) (w ++ x :: u) := by
  have hne := (nm_word hw).2
  simp only [isNm, Bool.and_eq_true, decide_eq_true_eq, Bool.not_eq_true'] at hw
  obtain ⟨⟨⟨h1, h2⟩, h3⟩, h4⟩ := hw
  have hp : 0 < w.length := List.length_pos_iff.2 hne
  have e : wordLen (w ++ x :: u) = w.length := by rw [wordLen_stop w u x hx, h2]
  have e2 : (w ++ x :: u).take w.length = w := List.take_left
  refine h.tok hne ?_ ?_ <;> (unfold oneL; rw [e, if_pos hp, e2, if_neg (by rw [h4]; simp), if_neg (by omega)])
theorem G.kw {k : Nat} {w u : List UInt8} {x : UInt8} (h : G pr k (x :: u)) (hw : isKw w = true) (hx : isWd x = false) : G pr (k + 1) (w ++ x :: u) := by
  obtain ⟨h2, hp⟩ := kw_word hw
  have e : wordLen (w ++ x :: u) = w.length := by rw [wordLen_stop w u x hx, h2]
  have e2 : (w ++ x :: u).take w.length = w := List.take_left
  refine h.tok (List.length_pos_iff.1 hp) ?_ ?_ <;> (unfold oneL; rw [e, if_pos hp, e2, if_pos hw])
theorem mk_no (c : UInt8) (hc : c ∈ [123, 125, 91, 93, 59, 44, 61, 58]) (y : UInt8) : isMk [c, y] = false := by
  simp only [List.mem_cons, List.not_mem_nil, or_false] at hc
  unfold isMk mks
  rcases hc with rfl | rfl | rfl | rfl | rfl | rfl | rfl | rfl <;> simp
theorem G.mk {k : Nat} {u : List UInt8} (h : G pr k u) (c : UInt8) (hc : c ∈ [123, 125, 91, 93, 59, 44, 61, 58]) : G pr (k + 1) (c :: u) := by
  have hm : isMk [c] = true := by
    simp only [List.mem_cons, List.not_mem_nil, or_false] at hc
    rcases hc with rfl | rfl | rfl | rfl | rfl | rfl | rfl | rfl <;> decide
  have w0 : wordLen (c :: u) = 0 := by
    simp only [List.mem_cons, List.not_mem_nil, or_false] at hc
    rcases hc with rfl | rfl | rfl | rfl | rfl | rfl | rfl | rfl <;> rfl
  have n0 : numLen (c :: u) = 0 := by
    simp only [List.mem_cons, List.not_mem_nil, or_false] at hc
    rcases hc with rfl | rfl | rfl | rfl | rfl | rfl | rfl | rfl <;> exact numLen_no (by decide) (by rintro ⟨q, -⟩; exact absurd q (by decide))
  have q0 : ¬ (c :: u).head? = some 34 := by
    simp only [List.mem_cons, List.not_mem_nil, or_false] at hc
    rcases hc with rfl | rfl | rfl | rfl | rfl | rfl | rfl | rfl <;> simp
  have t0 : ¬ (1 < (c :: u).length ∧ isMk ((c :: u).take 2) = true) := by
    rintro ⟨q1, q2⟩
    cases u with
    | nil => simp at q1
    | cons y u =>
      rw [show (c :: y :: u).take 2 = [c, y] from rfl, mk_no c hc y] at q2
      cases q2
  have e : oneL pr (c :: u) = (⟨5, [c], 0, 0⟩, 1, 0) := by
    unfold oneL
    rw [w0, n0, if_neg (by decide), if_neg (by decide), if_neg q0, if_neg t0, show (c :: u).take 1 = [c] from rfl, if_pos hm]
  exact h.tok (w := [c]) (by simp) (by rw [List.singleton_append, e]; rfl) (by rw [List.singleton_append, e])
theorem G.arrow {k : Nat} {u : List UInt8} (h : G pr k u) (d : Bool) : G pr (k + 1) (45 :: (if d then 62 else 45) :: u) := by
  have e : oneL pr (45 :: (if d then 62 else 45) :: u) = (⟨5, [45, if d then 62 else 45], 0, 0⟩, 2, 0) := by
    unfold oneL
    have w0 : wordLen (45 :: (if d then 62 else 45) :: u) = 0 := rfl
    have n0 : numLen (45 :: (if d then 62 else 45) :: u) = 0 := numLen_no (by decide) (by rintro ⟨-, q⟩; rw [List.head?_cons, Option.map_some, Option.some.injEq] at q; cases d <;> exact absurd q (by decide))
    have t0 : 1 < (45 :: (if d then 62 else 45) :: u : List UInt8).length ∧ isMk ((45 :: (if d then 62 else 45) :: u : List UInt8).take 2) = true := ⟨by simp, by cases d <;> rfl⟩
    rw [w0, n0, if_neg (by decide), if_neg (by decide), if_neg (by simp), if_pos t0]
    rfl
  exact h.tok (w := [45, if d then 62 else 45]) (by simp) (by rw [List.cons_append, List.singleton_append, e]; rfl) (by rw [List.cons_append, List.singleton_append, e])
theorem G.num {k : Nat} {v u : List UInt8} {x : UInt8} (h : G pr k (x :: u)) (hv : numForm v) (he : (pr v).2 = 0) (hx : isNb x = false) : G pr (k + 1) (v ++ x :: u) := by
  have hne := (num_uq hv).2
  have hw : isWd x = false := by unfold isNb at hx; rw [Bool.or_eq_false_iff] at hx; exact hx.1
  have e1 : wordLen (v ++ x :: u) = 0 := by rw [wordLen_stop v u x hw, numForm_word hv]
  have e2 : numLen (v ++ x :: u) = v.length := by rw [numLen_stop v u x hne hx, numForm_len hv]
  have e3 : (v ++ x :: u).take v.length = v := List.take_left
  have hp : 0 < v.length := List.length_pos_iff.2 hne
  refine h.tok hne ?_ ?_ <;> (unfold oneL; rw [e1, e2, if_neg (by decide), if_pos hp, e3])
  exact he
theorem G.quo {k : Nat} {v u : List UInt8} (h : G pr k u) (h1 : v.length ≤ 32) (h2 : v.all isPl = true) : G pr (k + 1) (quoL v ++ u) := by
  have e := strL_esc v [] 1 h2 (by simpa using h1)
  have e2 := strL_app u (escL v ++ [34]).length (escL v ++ [34]) [] 1 (Nat.le_refl _) (by rw [e])
  rw [e] at e2
  have w0 : wordLen (quoL v ++ u) = 0 := rfl
  have n0 : numLen (quoL v ++ u) = 0 := rfl
  have e3 : (quoL v ++ u).tail = escL v ++ [34] ++ u := rfl
  have q : (quoL v ++ u).head? = some 34 := rfl
  refine h.tok (by simp [quoL]) ?_ ?_ <;> (unfold oneL; rw [w0, n0, if_neg (by decide), if_neg (by decide), if_pos q, e3, e2])
  simp [quoL]; omega
/-- The bytes that a value's text may have ahead of it are none of its own. -/
theorem G.val (hp : ∀ l, (pr l).2 = 0 → numForm l) {k : Nat} {v u : List UInt8} {x : UInt8} (h : G pr k (x :: u)) (h1 : v.length ≤ 32) (h2 : v.all isPl = true) (hx : isUq x = false) : G pr (k + 1) (valS pr v ++ x :: u) := by
  have hn : isNb x = false := by unfold isUq at hx; rw [Bool.or_eq_false_iff] at hx; exact hx.1
  have hw : isWd x = false := by unfold isNb at hn; rw [Bool.or_eq_false_iff] at hn; exact hn.1
  unfold valS
  split
  · rename_i hv; exact h.nm hv hw
  · split
    · rename_i hv; exact h.num (hp v hv) hv hn
    · exact h.quo h1 h2
def attOk (l : List Pr) : Prop := ∀ a ∈ l, isNm a.1 = true ∧ a.2.length ≤ 32 ∧ a.2.all isPl = true
theorem G.att (hp : ∀ l, (pr l).2 = 0 → numForm l) {k : Nat} {a : Pr} {u : List UInt8} {x : UInt8} (h : G pr k (x :: u)) (ha : isNm a.1 = true ∧ a.2.length ≤ 32 ∧ a.2.all isPl = true) (hx : isUq x = false) : G pr k (attB pr a ++ x :: u) := by
  unfold attB
  rw [List.append_assoc, List.cons_append]
  exact (((h.val hp ha.2.1 ha.2.2 hx).mk 61 (by decide)).nm ha.1 (by decide)).less (by omega)
theorem G.attT (hp : ∀ l, (pr l).2 = 0 → numForm l) {k : Nat} {u : List UInt8} (h : G pr k u) : ∀ {l : List Pr}, attOk l → G pr k (attT pr l ++ u) := by
  intro l
  induction l with
  | nil => intro _; exact (h.mk 93 (by decide)).less (by omega)
  | cons a t ih =>
    intro hl
    have h2 := ih (fun y hy => hl y (List.mem_cons_of_mem _ hy))
    obtain ⟨x, q, e, hx⟩ := attT_head (pr := pr) t u
    rw [e] at h2
    simp only [prt.attT, List.cons_append, List.append_assoc]
    rw [e]
    exact (((h2.att hp (hl a (by simp)) hx).sp).mk 44 (by decide)).less (by omega)
theorem G.attS (hp : ∀ l, (pr l).2 = 0 → numForm l) {k : Nat} {u : List UInt8} (h : G pr k u) {l : List Pr} (hl : attOk l) : G pr k (attS pr l ++ u) := by
  cases l with
  | nil => exact h
  | cons a t =>
    have h2 := h.attT hp (l := t) (fun y hy => hl y (List.mem_cons_of_mem _ hy))
    obtain ⟨x, q, e, hx⟩ := attT_head (pr := pr) t u
    rw [e] at h2
    simp only [prt.attS, List.cons_append, List.append_assoc]
    rw [e]
    exact ((h2.att hp (hl a (by simp)) hx).mk 91 (by decide)).less (by omega)
theorem G.aft (hp : ∀ l, (pr l).2 = 0 → numForm l) {k : Nat} {u : List UInt8} (h : G pr k u) {l : List Pr} (hl : attOk l) : G pr k (aft pr l ++ u) := by
  unfold prt.aft
  split
  · exact h
  · exact (h.attS hp hl).sp
theorem G.port {k : Nat} {p u : List UInt8} (h : G pr k u) (hs : PStop u) (hw : p = [] ∨ isNm p = true) : G pr k (prtP p ++ u) := by
  unfold prtP
  split
  · exact h
  · rename_i hp
    obtain ⟨x, q, rfl, hx, -⟩ := hs.cons
    rcases hw with rfl | hw
    · simp at hp
    · exact ((h.nm hw hx).mk 58 (by decide)).less (by omega)
def refOk (l : List Pr) : Prop := ∀ x ∈ l, isNm x.1 = true ∧ (x.2 = [] ∨ isNm x.2 = true)
theorem G.ref {k : Nat} {d : Bool} {r : Pr} {t : List Pr} {u : List UInt8} (h : G pr k (refT d t ++ u)) (hs : RStop u) (hr : isNm r.1 = true ∧ (r.2 = [] ∨ isNm r.2 = true)) : G pr k (r.1 ++ (prtP r.2 ++ (refT d t ++ u))) := by
  have h2 := h.port (refT_stop d t hs) hr.2
  obtain ⟨x, q, e, hx⟩ := prtP_head r.2 (refT_stop d t hs)
  rw [e] at h2 ⊢
  exact (h2.nm hr.1 hx).less (by omega)
theorem G.refT {k : Nat} {d : Bool} {u : List UInt8} (h : G pr k u) (hs : RStop u) : ∀ {l : List Pr}, refOk l → G pr k (refT d l ++ u) := by
  intro l
  induction l with
  | nil => intro _; exact h
  | cons r t ih =>
    intro hl
    have h2 := ih (fun y hy => hl y (List.mem_cons_of_mem _ hy))
    simp only [prt.refT, List.cons_append, List.append_assoc]
    exact (((h2.ref hs (hl r (by simp))).sp.arrow d).sp).less (by omega)
end
end Go.Proofs.Ytmpjdlhigmofdaa.prt
namespace Go.Proofs.Ytmpjdlhigmofdaa.prt
open lex tre

theorem attL_vals {k : Int} : ∀ {l done : List Pr}, attL k done l = 0 → ∀ a ∈ l, a.2.length ≤ 32 ∧ a.2.all isPl = true := by
  intro l
  induction l with
  | nil => intro done _ a ha; simp at ha
  | cons x t ih =>
    intro done h a ha
    unfold attL at h
    split at h
    · exact absurd h (by decide)
    · split at h
      · exact absurd h (by decide)
      · split at h
        · exact absurd h (by decide)
        · rename_i h3
          split at h
          · exact absurd h (by decide)
          · rename_i h4
            rcases List.mem_cons.1 ha with rfl | ha
            · exact ⟨by omega, by simpa using h4⟩
            · exact ih h a ha
theorem staE_att {s : St} {lv : Int} (h : staE s lv = 0) : attL s.kind [] s.attrs = 0 := by
  unfold staE at h
  by_cases h1 : fldE s ≠ 0
  · rw [if_pos h1] at h; exact absurd h h1
  rw [if_neg h1] at h
  by_cases h2 : s.kind = 5 ∧ 6 ≤ lv
  · rw [if_pos h2] at h; exact absurd h (by decide)
  rw [if_neg h2] at h
  by_cases h3 : s.kind ≠ 2 ∧ s.kind ≠ 3 ∧ isNm s.name = false
  · rw [if_pos h3] at h; exact absurd h (by decide)
  rw [if_neg h3] at h
  by_cases h4 : s.refs.all refB = false
  · rw [if_pos h4] at h; exact absurd h (by decide)
  rw [if_neg h4] at h
  unfold attE at h
  by_cases f5 : 16 < s.attrs.length
  · rw [if_pos f5] at h; exact absurd h (by decide)
  rwa [if_neg f5] at h
theorem vS.vals {s : St} (h : vS s) : ∀ a ∈ s.attrs, a.2.length ≤ 32 ∧ a.2.all isPl = true := by
  obtain ⟨lv, h⟩ := h
  exact attL_vals (staE_att (h (s, lv) (by rw [preS_eq]; simp)))
theorem vS.att {s : St} (h : vS s) (hk : s.kind ≠ 4) : attOk s.attrs := by
  have h2 := h.vals
  obtain ⟨lv, h⟩ := h
  exact fun a ha => ⟨attL_keys hk (staE_att (h (s, lv) (by rw [preS_eq]; simp))) a ha, h2 a ha⟩

section
variable {pr : List UInt8 → Int × Int}
theorem aft_head (a : List Pr) (u : List UInt8) : ∃ x t, aft pr a ++ 59 :: u = x :: t ∧ isWd x = false := by
  rcases aft_stop (pr := pr) a u with ⟨q, e⟩ | ⟨q, e⟩
  · exact ⟨_, _, e, by decide⟩
  · exact ⟨_, _, e, by decide⟩
theorem stm_toks (hp : ∀ l, (pr l).2 = 0 → numForm l) : (∀ s : St, ∀ d m k u, vS s → G pr k u → G pr k (stS pr d m s ++ u)) ∧ ∀ l : List St, ∀ d m k u, vL l → G pr k u → G pr k (stL pr d m l ++ u) := by
  refine st_ind (fun kd n r a b hb d m k u hv hu => ?_) (fun d m k u _ hu => hu) (fun s t ih1 ih2 d m k u hv hu => ?_)
  · have hend : G pr k (59 :: 10 :: u) := (hu.lf.mk 59 (by decide)).less (by omega)
    have hvals := hv.vals
    have hatt := hv.att
    have hbody := hv.body
    have hf := hv.form
    clear hv
    cases hf with
    | node n a hn hk =>
      have e : stS pr d m (.mk 1 n [] a []) ++ u = List.replicate m 32 ++ (n ++ (aft pr a ++ 59 :: 10 :: u)) := by simp [stS]
      rw [e]
      have h2 := hend.aft hp (hatt (show (1 : Int) ≠ 4 by decide))
      obtain ⟨x, t, e2, hx⟩ := aft_head (pr := pr) a (10 :: u)
      change G pr k (aft pr a ++ 59 :: 10 :: u) at h2
      rw [e2] at h2 ⊢
      exact ((h2.nm hn hx).less (by omega)).sps m
    | edge r r2 q a hr hk =>
      have e : stS pr d m (.mk 2 [] (r :: r2 :: q) a []) ++ u = List.replicate m 32 ++ (r.1 ++ (prtP r.2 ++ (refT d (r2 :: q) ++ (aft pr a ++ 59 :: 10 :: u)))) := by simp [stS, refS]
      rw [e]
      have h2 : G pr k (aft pr a ++ 59 :: 10 :: u) := hend.aft hp (hatt (show (2 : Int) ≠ 4 by decide))
      have h3 := h2.refT (d := d) (aft_stop (pr := pr) a (10 :: u)) (l := r2 :: q) (fun y hy => hr y (List.mem_cons_of_mem _ hy))
      exact (h3.ref (aft_stop (pr := pr) a (10 :: u)) (hr r (by simp))).sps m
    | dflt n a hn hk =>
      have e : stS pr d m (.mk 3 n [] a []) ++ u = List.replicate m 32 ++ (n ++ 32 :: ((if a.isEmpty then [91, 93] else attS pr a) ++ 59 :: 10 :: u)) := by simp [stS]
      rw [e]
      have h2 : G pr k ((if a.isEmpty then [91, 93] else attS pr a) ++ 59 :: 10 :: u) := by
        split
        · exact ((hend.mk 93 (by decide)).mk 91 (by decide)).less (by omega)
        · exact hend.attS hp (hatt (show (3 : Int) ≠ 4 by decide))
      exact ((h2.sp.kw (w := n) (by rcases hn with rfl | rfl <;> decide) (by decide)).less (by omega)).sps m
    | sset n v hn =>
      have e : stS pr d m (.mk 4 n [] [([], v)] []) ++ u = List.replicate m 32 ++ (wSet ++ 32 :: (n ++ 32 :: 61 :: 32 :: (valS pr v ++ 59 :: 10 :: u))) := by simp [stS]
      rw [e]
      obtain ⟨q1, q2⟩ := hvals ([], v) (by simp [St.attrs])
      have h2 := (((hend.val hp q1 q2 (by decide)).sp.mk 61 (by decide)).sp.nm hn (by decide)).sp
      exact ((h2.kw (w := wSet) (by decide) (by decide)).less (by omega)).sps m
    | clus n b hn =>
      have e : stS pr d m (.mk 5 n [] [] b) ++ u = List.replicate m 32 ++ (wClu ++ 32 :: (n ++ 32 :: 123 :: 10 :: (stL pr d (m + 4) b ++ (List.replicate m 32 ++ 125 :: 10 :: u)))) := by simp [stS]
      rw [e]
      have h1 : G pr k (List.replicate m 32 ++ 125 :: 10 :: u) := ((hu.lf.mk 125 (by decide)).less (by omega)).sps m
      have h2 := (((hb d (m + 4) k _ hbody h1).lf.mk 123 (by decide)).sp.nm hn (by decide)).sp
      exact ((h2.kw (w := wClu) (by decide) (by decide)).less (by omega)).sps m
  · simp only [stL, List.append_assoc]
    exact ih1 d m k _ hv.cons.1 (ih2 d m k u hv.cons.2 hu)
/-- The text of a valid tree is tokenized, into at least four tokens. -/
theorem txt_toks (hp : ∀ l, (pr l).2 = 0 → numForm l) {T : Tr} (h : validT T = 0) : G pr 4 (txtT pr T) := by
  obtain ⟨hn, _, hv⟩ := (valid_iff T).1 h
  unfold txtT
  have h1 : G pr 1 [125, 10] := (G.nil.lf).mk 125 (by decide)
  have h2 := (((stm_toks hp).2 T.body T.dir 4 1 _ ⟨0, hv⟩ h1).lf.mk 123 (by decide)).sp.nm hn (by decide)
  exact h2.sp.kw (w := wDir T.dir) (by cases T.dir <;> decide) (by decide)

/-! ### Bytes and lines -/
theorem wd_pl {c : UInt8} (h : isWd c = true) : isPl c = true := by
  unfold isWd isLet isDgt at h
  unfold isPl
  simp only [Bool.or_eq_true, decide_eq_true_eq] at h ⊢
  omega
theorem esc_pl {v : List UInt8} (h : v.all isPl = true) : (escL v).all isPl = true := by
  rw [List.all_eq_true] at h ⊢
  intro x hx
  obtain ⟨c, hc, hx⟩ := List.mem_flatMap.1 hx
  split at hx
  · simp only [List.mem_cons, List.not_mem_nil, or_false] at hx
    rcases hx with rfl | rfl
    · decide
    · exact h x hc
  · simp only [List.mem_cons, List.not_mem_nil, or_false] at hx
    rw [hx]; exact h c hc
theorem val_pl {v : List UInt8} (h : v.all isPl = true) : (valS pr v).all isPl = true := by
  unfold valS
  split
  · exact h
  · split
    · exact h
    · unfold quoL
      rw [List.all_cons, List.all_append, esc_pl h]
      rfl
theorem nm_pl {l : List UInt8} (h : isNm l = true) : l.all isPl = true := all_mono (nm_word h).1 (fun _ => wd_pl)
theorem attB_pl {a : Pr} (h : isNm a.1 = true ∧ a.2.length ≤ 32 ∧ a.2.all isPl = true) : (attB pr a).all isPl = true := by
  unfold attB
  rw [List.all_append, List.all_cons, nm_pl h.1, val_pl h.2.2]; rfl
theorem attT_pl : ∀ {l : List Pr}, attOk l → (attT pr l).all isPl = true := by
  intro l
  induction l with
  | nil => intro _; rfl
  | cons a t ih =>
    intro h
    unfold attT
    rw [List.all_cons, List.all_cons, List.all_append, attB_pl (h a (by simp)), ih (fun y hy => h y (List.mem_cons_of_mem _ hy))]; rfl
theorem attS_pl {l : List Pr} (h : attOk l) : (attS pr l).all isPl = true := by
  cases l with
  | nil => rfl
  | cons a t =>
    unfold attS
    rw [List.all_cons, List.all_append, attB_pl (h a (by simp)), attT_pl (fun y hy => h y (List.mem_cons_of_mem _ hy))]; rfl
theorem aft_pl {l : List Pr} (h : attOk l) : (aft pr l).all isPl = true := by
  unfold aft
  split
  · rfl
  · rw [List.all_cons, attS_pl h]; rfl
theorem prtP_pl {p : List UInt8} (h : p = [] ∨ isNm p = true) : (prtP p).all isPl = true := by
  unfold prtP
  split
  · rfl
  · rename_i hp
    rcases h with rfl | h
    · simp at hp
    · rw [List.all_cons, nm_pl h]; rfl
theorem refT_pl (d : Bool) : ∀ {l : List Pr}, refOk l → (refT d l).all isPl = true := by
  intro l
  induction l with
  | nil => intro _; rfl
  | cons r t ih =>
    intro h
    unfold refT
    simp only [List.all_cons, List.all_append]
    rw [nm_pl (h r (by simp)).1, prtP_pl (h r (by simp)).2, ih (fun y hy => h y (List.mem_cons_of_mem _ hy))]
    cases d <;> rfl
theorem refS_pl (d : Bool) {l : List Pr} (h : refOk l) : (refS d l).all isPl = true := by
  cases l with
  | nil => rfl
  | cons r t =>
    unfold refS
    simp only [List.all_append]
    rw [nm_pl (h r (by simp)).1, prtP_pl (h r (by simp)).2, refT_pl d (fun y hy => h y (List.mem_cons_of_mem _ hy))]
    rfl
theorem rep_pl (m : Nat) : (List.replicate m (32 : UInt8)).all isPl = true := by
  rw [List.all_eq_true]
  intro x hx
  rw [(List.mem_replicate.1 hx).2]; decide
/-- A byte of a text. -/
def isTx (c : UInt8) : Bool := decide (c = 10) || isPl c
theorem pl_tx {l : List UInt8} (h : l.all isPl = true) : l.all isTx = true := all_mono h (fun c hc => by unfold isTx; rw [hc]; simp)
theorem pl_count {l : List UInt8} (h : l.all isPl = true) : l.count 10 = 0 := by
  rw [List.count_eq_zero]
  intro hm
  rw [List.all_eq_true] at h
  exact absurd (h 10 hm) (by decide)
theorem app_tx {a b : List UInt8} (h : a.all isTx = true) (h' : b.all isTx = true) : (a ++ b).all isTx = true := by rw [List.all_append, h, h']; rfl
theorem app_cnt {a b : List UInt8} {n m : Nat} (h : a.count 10 = n) (h' : b.count 10 = m) : (a ++ b).count 10 = n + m := by rw [List.count_append, h, h']
/-- A line: bytes from 32 to 126 and a line feed. -/
theorem line_of {p : List UInt8} (h : p.all isPl = true) : (p ++ [10]).all isTx = true ∧ (p ++ [10]).count 10 = 1 := by
  refine ⟨?_, ?_⟩
  · rw [List.all_append, pl_tx h]; rfl
  · rw [List.count_append, pl_count h]; rfl
theorem st_lines : (∀ s : St, ∀ d m lv, vS s → (stS pr d m s).all isTx = true ∧ (stS pr d m s).count 10 = (preS s lv).length + (cluL (preS s lv)).length) ∧
    ∀ l : List St, ∀ d m lv, vL l → (stL pr d m l).all isTx = true ∧ (stL pr d m l).count 10 = (preL l lv).length + (cluL (preL l lv)).length := by
  refine st_ind (fun kd n r a b hb d m lv hv => ?_) (fun d m lv _ => ⟨rfl, rfl⟩) (fun s t ih1 ih2 d m lv hv => ?_)
  · have hvals := hv.vals
    have hatt := hv.att
    have hbody := hv.body
    have hf := hv.form
    clear hv
    cases hf with
    | node n a hn hk =>
      have e : stS pr d m (.mk 1 n [] a []) = (List.replicate m 32 ++ (n ++ (aft pr a ++ [59]))) ++ [10] := by simp [stS]
      rw [e]
      refine line_of ?_
      simp only [List.all_append]
      rw [rep_pl, nm_pl hn, aft_pl (pr := pr) (l := a) (hatt (show (1 : Int) ≠ 4 by decide))]; rfl
    | edge r r2 q a hr hk =>
      have e : stS pr d m (.mk 2 [] (r :: r2 :: q) a []) = (List.replicate m 32 ++ (refS d (r :: r2 :: q) ++ (aft pr a ++ [59]))) ++ [10] := by simp [stS]
      rw [e]
      refine line_of ?_
      simp only [List.all_append]
      rw [rep_pl, refS_pl d hr, aft_pl (pr := pr) (l := a) (hatt (show (2 : Int) ≠ 4 by decide))]; rfl
    | dflt n a hn hk =>
      have e : stS pr d m (.mk 3 n [] a []) = (List.replicate m 32 ++ (n ++ (32 :: ((if a.isEmpty then [91, 93] else attS pr a) ++ [59])))) ++ [10] := by simp [stS]
      rw [e]
      have h2 : ((if a.isEmpty then [91, 93] else attS pr a) : List UInt8).all isPl = true := by
        split
        · decide
        · exact attS_pl (hatt (show (3 : Int) ≠ 4 by decide))
      have h3 : n.all isPl = true := by rcases hn with rfl | rfl <;> decide
      refine line_of ?_
      simp only [List.all_append, List.all_cons]
      rw [rep_pl, h2, h3]; rfl
    | sset n v hn =>
      have e : stS pr d m (.mk 4 n [] [([], v)] []) = (List.replicate m 32 ++ (wSet ++ (32 :: (n ++ (32 :: 61 :: 32 :: (valS pr v ++ [59])))))) ++ [10] := by simp [stS]
      rw [e]
      have h2 := val_pl (pr := pr) (hvals ([], v) (by simp [St.attrs])).2
      refine line_of ?_
      simp only [List.all_append, List.all_cons]
      rw [rep_pl, nm_pl hn, h2]; rfl
    | clus n b hn =>
      have e : stS pr d m (.mk 5 n [] [] b) = ((List.replicate m 32 ++ (wClu ++ (32 :: (n ++ [32, 123])))) ++ [10]) ++ (stL pr d (m + 4) b ++ ((List.replicate m 32 ++ [125]) ++ [10])) := by simp [stS]
      rw [e]
      obtain ⟨a1, a2⟩ := line_of (p := List.replicate m 32 ++ (wClu ++ (32 :: (n ++ [32, 123])))) (by
        simp only [List.all_append, List.all_cons]
        rw [rep_pl, nm_pl hn]; rfl)
      obtain ⟨b1, b2⟩ := line_of (p := List.replicate m 32 ++ [125]) (by
        rw [List.all_append, rep_pl]; rfl)
      obtain ⟨c1, c2⟩ := hb d (m + 4) (lv + 1) hbody
      refine ⟨app_tx a1 (app_tx c1 b1), ?_⟩
      rw [app_cnt a2 (app_cnt c2 b2), preS_eq]
      show _ = ((St.mk 5 n [] [] b, lv) :: preL b (lv + 1)).length + (cluL ((St.mk 5 n [] [] b, lv) :: preL b (lv + 1))).length
      unfold cluL
      rw [List.flatMap_cons, List.length_cons, List.length_append]
      show _ = _ + (1 + _)
      omega
  · obtain ⟨a1, a2⟩ := ih1 d m lv hv.cons.1
    obtain ⟨b1, b2⟩ := ih2 d m lv hv.cons.2
    simp only [stL]
    refine ⟨app_tx a1 b1, ?_⟩
    rw [app_cnt a2 b2, preL_cons]
    unfold cluL
    rw [List.flatMap_append, List.length_append, List.length_append]
    omega
/-- P8.3, first half: the bytes of the text, and its lines. -/
theorem txt_lines {T : Tr} (h : validT T = 0) : (txtT pr T).all isTx = true ∧ (txtT pr T).count 10 = 2 + cnt T.body + (clustersT T).length := by
  obtain ⟨hn, _, hv⟩ := (valid_iff T).1 h
  have e : txtT pr T = ((wDir T.dir ++ (32 :: (T.name ++ [32, 123]))) ++ [10]) ++ (stL pr T.dir 4 T.body ++ ([125] ++ [10])) := by simp [txtT]
  obtain ⟨a1, a2⟩ := line_of (p := wDir T.dir ++ (32 :: (T.name ++ [32, 123]))) (by
    simp only [List.all_append, List.all_cons]
    rw [nm_pl hn]
    cases T.dir <;> rfl)
  obtain ⟨b1, b2⟩ := line_of (p := [125]) (by decide)
  obtain ⟨c1, c2⟩ := (st_lines (pr := pr)).2 T.body T.dir 4 0 ⟨0, hv⟩
  rw [e]
  refine ⟨app_tx a1 (app_tx c1 b1), ?_⟩
  rw [app_cnt a2 (app_cnt c2 b2)]
  unfold clustersT cnt
  rw [if_pos h]
  omega
end
end Go.Proofs.Ytmpjdlhigmofdaa.prt
namespace Go.Proofs.Ytmpjdlhigmofdaa.prt
open Go.RowKit lex tre

/-- What Parse accepts has the form of a number. -/
theorem prL_form : ∀ l, (prL l).2 = 0 → numForm l := fun l h => by
  rcases parseV_ways l with e | e | ⟨n, _, _, _, e⟩
  · rw [prL_of (n := 0) (e := 4) e] at h; cases h
  · rw [prL_of (n := 0) (e := 16) e] at h; cases h
  · rw [← e]; exact fmt_form n
theorem nm_le {l : List UInt8} (h : isNm l = true) : l.length ≤ 16 := by
  unfold isNm at h
  simp only [Bool.and_eq_true, decide_eq_true_eq] at h
  exact h.1.2
theorem quo_len (v : List UInt8) : (quoL v).length ≤ 2 * v.length + 2 := by
  unfold quoL
  have := esc_len v
  simp only [List.length_cons, List.length_append, List.length_nil]
  omega
theorem val_len {v : List UInt8} (h : v.length ≤ 32) : (valS prL v).length ≤ 66 := by
  unfold valS
  have := quo_len v
  split
  · omega
  · split <;> omega
theorem attB_len {a : Pr} (h : isNm a.1 = true ∧ a.2.length ≤ 32 ∧ a.2.all isPl = true) : (attB prL a).length ≤ 83 := by
  have h1 := nm_le h.1
  have h2 := val_len h.2.1
  unfold attB
  rw [List.length_append, List.length_cons]; omega
theorem attT_len : ∀ {l : List Pr}, attOk l → (attT prL l).length ≤ 1 + 85 * l.length := by
  intro l
  induction l with
  | nil => intro _; simp [attT]
  | cons a t ih =>
    intro h
    have h1 := attB_len (h a (by simp))
    have h2 := ih (fun x hx => h x (List.mem_cons_of_mem _ hx))
    simp only [attT, List.length_cons, List.length_append]; omega
theorem attS_len {l : List Pr} (h : attOk l) : (attS prL l).length ≤ 2 + 85 * l.length := by
  cases l with
  | nil => simp [attS]
  | cons a t =>
    have h1 := attB_len (h a (by simp))
    have h2 := attT_len (fun x hx => h x (List.mem_cons_of_mem _ hx) : attOk t)
    simp only [attS, List.length_cons, List.length_append]; omega
theorem aft_len {l : List Pr} (h : attOk l) : (aft prL l).length ≤ 3 + 85 * l.length := by
  have := attS_len h
  unfold aft
  split
  · simp
  · rw [List.length_cons]; omega
theorem prtP_len {p : List UInt8} (h : p = [] ∨ isNm p = true) : (prtP p).length ≤ 17 := by
  unfold prtP
  rcases h with rfl | h
  · simp
  · have := nm_le h
    split
    · simp
    · rw [List.length_cons]; omega
theorem refT_len (d : Bool) : ∀ {l : List Pr}, refOk l → (refT d l).length ≤ 37 * l.length := by
  intro l
  induction l with
  | nil => intro _; simp [refT]
  | cons a t ih =>
    intro h
    have h1 := nm_le (h a (by simp)).1
    have h2 := prtP_len (h a (by simp)).2
    have h3 := ih (fun x hx => h x (List.mem_cons_of_mem _ hx))
    simp only [refT, List.length_cons, List.length_append]; omega
theorem refS_len (d : Bool) {l : List Pr} (h : refOk l) : (refS d l).length ≤ 37 * l.length := by
  cases l with
  | nil => simp [refS]
  | cons a t =>
    have h1 := nm_le (h a (by simp)).1
    have h2 := prtP_len (h a (by simp)).2
    have h3 := refT_len d (fun x hx => h x (List.mem_cons_of_mem _ hx) : refOk t)
    simp only [refS, List.length_cons, List.length_append]; omega

/-! ### Joined lists -/
theorem join_snoc (xs : List (List UInt8)) (y sep : List UInt8) : Lib.join (xs ++ [y]) sep = if xs.isEmpty then y else Lib.join xs sep ++ (sep ++ y) := by
  cases xs with
  | nil => rw [List.nil_append, Lib.join_one]; rfl
  | cons x r =>
    rw [List.cons_append, Lib.join_cons, Lib.join_cons]
    simp [Lib.joinTail, List.append_assoc]
theorem attT_join (pr : List UInt8 → Int × Int) (l : List Pr) : attT pr l = Lib.joinTail [44, 32] (l.map (attB pr)) ++ [93] := by
  induction l with
  | nil => rfl
  | cons a t ih => simp only [attT, ih]; simp [Lib.joinTail]
/-- Attributes, joined. -/
def attJ (l : List Pr) : List UInt8 := Lib.join (l.map (attB prL)) [44, 32]
theorem attS_join {l : List Pr} (h : l ≠ []) : attS prL l = 91 :: (attJ l ++ [93]) := by
  cases l with
  | nil => exact absurd rfl h
  | cons a t => simp only [attS, attT_join, attJ, List.map_cons, Lib.join_cons, List.append_assoc]
theorem attJ_snoc (l : List Pr) (a : Pr) : attJ (l ++ [a]) = if l.isEmpty then attB prL a else attJ l ++ ([44, 32] ++ attB prL a) := by
  unfold attJ
  rw [List.map_append, List.map_singleton, join_snoc]
  cases l <;> rfl
def arrS (d : Bool) : List UInt8 := [32, 45, if d then 62 else 45, 32]
def refX (r : Pr) : List UInt8 := r.1 ++ prtP r.2
theorem refT_join (d : Bool) (l : List Pr) : refT d l = Lib.joinTail (arrS d) (l.map refX) := by
  induction l with
  | nil => rfl
  | cons a t ih => simp only [refT, ih]; simp [Lib.joinTail, arrS, refX]
theorem refS_join (d : Bool) (l : List Pr) : refS d l = Lib.join (l.map refX) (arrS d) := by
  cases l with
  | nil => rfl
  | cons a t => simp only [refS, refT_join, List.map_cons, Lib.join_cons, refX, List.append_assoc]
theorem refS_snoc (d : Bool) (l : List Pr) (a : Pr) : refS d (l ++ [a]) = if l.isEmpty then refX a else refS d l ++ (arrS d ++ refX a) := by
  rw [refS_join, refS_join, List.map_append, List.map_singleton, join_snoc]
  cases l <;> rfl
theorem attJ_len {l : List Pr} (h : attOk l) : (attJ l).length ≤ 85 * l.length := by
  cases l with
  | nil => simp [attJ, Lib.join_nil]
  | cons a t =>
    have h1 := attS_len h
    rw [attS_join (by simp)] at h1
    simp only [List.length_cons, List.length_append, List.length_nil] at h1 ⊢; omega
theorem ok_take {l : List Pr} (h : attOk l) (k : Nat) : attOk (l.take k) := fun x hx => h x (List.mem_of_mem_take hx)
theorem rok_take {l : List Pr} (h : refOk l) (k : Nat) : refOk (l.take k) := fun x hx => h x (List.mem_of_mem_take hx)
end Go.Proofs.Ytmpjdlhigmofdaa.prt
