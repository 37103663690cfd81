/-
  Plain facts on the tokens of graph descriptions (layer 6): what a text's tokens are, what a token's text is, and that a joined text has the same tokens. No program is named here; a number's text is read by a function 'pr' and written by a function 'fm' that are left open.
-/
namespace Go.Proofs.Ytjeacpohanadnaa.lex

/-! ### Bytes -/
def isLet (c : UInt8) : Bool := decide (97 ≤ c.toNat ∧ c.toNat ≤ 122) || decide (65 ≤ c.toNat ∧ c.toNat ≤ 90) || decide (c.toNat = 95)
def isDgt (c : UInt8) : Bool := decide (48 ≤ c.toNat ∧ c.toNat ≤ 57)
def isWd (c : UInt8) : Bool := isLet c || isDgt c
def isNb (c : UInt8) : Bool := isWd c || decide (c.toNat = 46)
def isPl (c : UInt8) : Bool := decide (32 ≤ c.toNat ∧ c.toNat ≤ 126)
def isBl (c : UInt8) : Bool := decide (c.toNat = 32) || decide (c.toNat = 9) || decide (c.toNat = 35)

theorem let_nd {c : UInt8} (h : isDgt c = true) : isLet c = false := by
  simp only [isDgt, isLet, decide_eq_true_eq, Bool.or_eq_false_iff, decide_eq_false_iff_not] at *; omega

/-! ### Words, names, keywords, marks -/
/-- The length of the word at the beginning, or 0. -/
def wordLen : List UInt8 → Nat
  | [] => 0
  | c :: t => if isLet c then (t.takeWhile isWd).length + 1 else 0
def kws : List (List UInt8) := [[100, 105, 103, 114, 97, 112, 104], [103, 114, 97, 112, 104], [110, 111, 100, 101], [101, 100, 103, 101], [115, 101, 116], [99, 108, 117, 115, 116, 101, 114]]
def isKw (l : List UInt8) : Bool := kws.contains l
def isNm (l : List UInt8) : Bool := !l.isEmpty && decide (wordLen l = l.length) && decide (l.length ≤ 16) && !isKw l
def mks : List (List UInt8) := [[123], [125], [91], [93], [59], [44], [61], [58], [45, 62], [45, 45]]
def isMk (l : List UInt8) : Bool := mks.contains l
/-- The length of the number at the beginning, or 0. -/
def numLen : List UInt8 → Nat
  | [] => 0
  | c :: t => if isDgt c then (t.takeWhile isNb).length + 1 else if c.toNat = 45 ∧ (t.head?.map isDgt) = some true then (t.takeWhile isNb).length + 1 else 0

theorem takeWhile_le (p : UInt8 → Bool) (l : List UInt8) : (l.takeWhile p).length ≤ l.length := by
  induction l with
  | nil => simp
  | cons a l ih => rw [List.takeWhile_cons]; split <;> simp <;> omega
theorem takeWhile_stop (p : UInt8 → Bool) (l s : List UInt8) (x : UInt8) (hx : p x = false) : (l ++ x :: s).takeWhile p = l.takeWhile p := by
  induction l with
  | nil => simp [hx]
  | cons a l ih => rw [List.cons_append, List.takeWhile_cons, List.takeWhile_cons, ih]
theorem takeWhile_all (p : UInt8 → Bool) (l : List UInt8) (h : l.all p = true) : l.takeWhile p = l := by
  induction l with
  | nil => rfl
  | cons a l ih =>
    rw [List.all_cons, Bool.and_eq_true] at h
    rw [List.takeWhile_cons, if_pos h.1, ih h.2]
theorem takeWhile_take (p : UInt8 → Bool) (l : List UInt8) : l.take (l.takeWhile p).length = l.takeWhile p := by
  induction l with
  | nil => rfl
  | cons a l ih => rw [List.takeWhile_cons]; split <;> simp [ih]

theorem wordLen_cons (c : UInt8) (t : List UInt8) : wordLen (c :: t) = if isLet c then (t.takeWhile isWd).length + 1 else 0 := rfl
theorem numLen_cons (c : UInt8) (t : List UInt8) : numLen (c :: t) = if isDgt c then (t.takeWhile isNb).length + 1 else if c.toNat = 45 ∧ (t.head?.map isDgt) = some true then (t.takeWhile isNb).length + 1 else 0 := rfl
theorem wordLen_le (l : List UInt8) : wordLen l ≤ l.length := by
  cases l with
  | nil => simp [wordLen]
  | cons a l => rw [wordLen_cons, List.length_cons]; have := takeWhile_le isWd l; split <;> omega
theorem numLen_le (l : List UInt8) : numLen l ≤ l.length := by
  cases l with
  | nil => simp [numLen]
  | cons a l => rw [numLen_cons, List.length_cons]; have := takeWhile_le isNb l; (repeat' split) <;> omega
theorem wordLen_stop (l s : List UInt8) (x : UInt8) (hx : isWd x = false) : wordLen (l ++ x :: s) = wordLen l := by
  cases l with
  | nil =>
    have : isLet x = false := by simp [isWd] at hx; exact hx.1
    simp [wordLen, this]
  | cons a l => rw [List.cons_append, wordLen_cons, wordLen_cons, takeWhile_stop isWd l s x hx]
theorem numLen_stop (l s : List UInt8) (x : UInt8) (hl : l ≠ []) (hx : isNb x = false) : numLen (l ++ x :: s) = numLen l := by
  cases l with
  | nil => exact absurd rfl hl
  | cons a l =>
    rw [List.cons_append, numLen_cons, numLen_cons, takeWhile_stop isNb l s x hx]
    cases l with
    | nil =>
      have : isDgt x = false := by simp [isNb, isWd] at hx; exact hx.1.2
      simp [this]
    | cons b l => rfl

/-! ### Scanning from left to right -/
theorem takeWhile_len (p : UInt8 → Bool) : ∀ (l : List UInt8) (k : Nat), k ≤ l.length → (∀ i, i < k → ∀ c, l[i]? = some c → p c = true) → (∀ c, l[k]? = some c → p c = false) → (l.takeWhile p).length = k := by
  intro l
  induction l with
  | nil => intro k hk _ _; simp at hk; subst hk; rfl
  | cons a l ih =>
    intro k hk h1 h2
    cases k with
    | zero =>
      have : p a = false := h2 a rfl
      rw [List.takeWhile_cons, this]; rfl
    | succ k =>
      have ha : p a = true := h1 0 (by omega) a rfl
      rw [List.takeWhile_cons, ha]
      show (l.takeWhile p).length + 1 = k + 1
      rw [ih k (by simpa using hk) (fun i hi c hc => h1 (i + 1) (by omega) c (by simpa using hc)) (fun c hc => h2 c (by simpa using hc))]
/-- A byte that may stand at place i of a word. -/
def okAt (i : Nat) (c : UInt8) : Bool := if i = 0 then isLet c else isWd c
def WordTo (l : List UInt8) (k : Nat) : Prop := ∀ i, i < k → ∀ c, l[i]? = some c → okAt i c = true
theorem WordTo.zero (l : List UInt8) : WordTo l 0 := fun i hi => absurd hi (by omega)
theorem WordTo.next {l : List UInt8} {k : Nat} {c : UInt8} (h : WordTo l k) (hc : l[k]? = some c) (hk : okAt k c = true) : WordTo l (k + 1) := by
  intro i hi d hd
  rcases Nat.lt_or_ge i k with h1 | h1
  · exact h i h1 d hd
  · obtain rfl : i = k := by omega
    rw [hc] at hd
    obtain rfl := Option.some.inj hd
    exact hk
theorem WordTo.stop {l : List UInt8} {k : Nat} (h : WordTo l k) (hk : k ≤ l.length) (hs : ∀ c, l[k]? = some c → okAt k c = false) : wordLen l = k := by
  cases l with
  | nil => simp at hk; subst hk; rfl
  | cons a t =>
    rw [wordLen_cons]
    cases k with
    | zero =>
      have : isLet a = false := by simpa [okAt] using hs a rfl
      rw [this]; rfl
    | succ k =>
      have ha : isLet a = true := by simpa [okAt] using h 0 (by omega) a rfl
      rw [ha]
      show (t.takeWhile isWd).length + 1 = k + 1
      rw [takeWhile_len isWd t k (by simpa using hk) (fun i hi c hc => by simpa [okAt] using h (i + 1) (by omega) c (by simpa using hc)) (fun c hc => by simpa [okAt] using hs c (by simpa using hc))]

/-- From place m to place k all bytes are those of a number. -/
def NumTo (l : List UInt8) (m k : Nat) : Prop := ∀ i, m ≤ i → i < k → ∀ c, l[i]? = some c → isNb c = true
theorem NumTo.start (l : List UInt8) (m : Nat) : NumTo l m m := fun i h1 h2 => absurd h2 (by omega)
theorem NumTo.next {l : List UInt8} {m k : Nat} {c : UInt8} (h : NumTo l m k) (hc : l[k]? = some c) (hk : isNb c = true) : NumTo l m (k + 1) := by
  intro i h0 hi d hd
  rcases Nat.lt_or_ge i k with h1 | h1
  · exact h i h0 h1 d hd
  · obtain rfl : i = k := by omega
    rw [hc] at hd
    obtain rfl := Option.some.inj hd
    exact hk
theorem NumTo.stop0 {c : UInt8} {t : List UInt8} {k : Nat} (hc : isDgt c = true) (h : NumTo (c :: t) 0 k) (hk : k ≤ (c :: t).length) (hs : ∀ d, (c :: t)[k]? = some d → isNb d = false) : numLen (c :: t) = k := by
  have hn : isNb c = true := by simp [isNb, isWd, hc]
  rw [numLen_cons, if_pos hc]
  have := takeWhile_len isNb (c :: t) k hk (fun i hi d hd => h i (Nat.zero_le _) hi d hd) hs
  rw [List.takeWhile_cons, hn] at this
  exact this
theorem NumTo.stop1 {c : UInt8} {t : List UInt8} {k : Nat} (hc : isDgt c = false) (h45 : c.toNat = 45) (ht : (t.head?.map isDgt) = some true) (h1 : 1 ≤ k) (h : NumTo (c :: t) 1 k) (hk : k ≤ (c :: t).length) (hs : ∀ d, (c :: t)[k]? = some d → isNb d = false) : numLen (c :: t) = k := by
  rw [numLen_cons, if_neg (by rw [hc]; simp), if_pos ⟨h45, ht⟩]
  obtain ⟨m, rfl⟩ : ∃ m, k = m + 1 := ⟨k - 1, by omega⟩
  have := takeWhile_len isNb t m (by simpa using hk) (fun i hi d hd => h (i + 1) (by omega) (by omega) d (by simpa using hd)) (fun d hd => hs d (by simpa using hd))
  omega
theorem numLen_no {c : UInt8} {t : List UInt8} (hc : isDgt c = false) (h : ¬ (c.toNat = 45 ∧ (t.head?.map isDgt) = some true)) : numLen (c :: t) = 0 := by
  rw [numLen_cons, if_neg (by rw [hc]; simp), if_neg h]

/-! ### Strings -/
def escL (l : List UInt8) : List UInt8 := l.flatMap fun c => if c.toNat = 34 ∨ c.toNat = 92 then [92, c] else [c]
def quoL (l : List UInt8) : List UInt8 := 34 :: (escL l ++ [34])
/-- What follows a quotation mark, 'out' the contents read so far, 'n' the bytes read so far: contents, bytes, error. -/
def strL : List UInt8 → List UInt8 → Nat → List UInt8 × Nat × Int
  | [], _, _ => ([], 0, 3)
  | c :: t, out, n =>
    if c.toNat = 10 then ([], 0, 3)
    else if c.toNat = 34 then (out, n + 1, 0)
    else if c.toNat = 92 then
      match t with
      | [] => ([], 0, 3)
      | d :: t' =>
        if d.toNat = 10 then ([], 0, 3)
        else if d.toNat ≠ 34 ∧ d.toNat ≠ 92 then ([], 0, 4)
        else if 32 < out.length + 1 then ([], 0, 2)
        else strL t' (out ++ [d]) (n + 2)
    else if isPl c = false then ([], 0, 4)
    else if 32 < out.length + 1 then ([], 0, 2)
    else strL t (out ++ [c]) (n + 1)

theorem strL_nil (out : List UInt8) (n : Nat) : strL [] out n = ([], 0, 3) := by rw [strL]
theorem strL_lf {c : UInt8} (t out : List UInt8) (n : Nat) (h : c.toNat = 10) : strL (c :: t) out n = ([], 0, 3) := by unfold strL; rw [if_pos h]
theorem strL_end {c : UInt8} (t out : List UInt8) (n : Nat) (h : c.toNat = 34) : strL (c :: t) out n = (out, n + 1, 0) := by unfold strL; rw [if_neg (by omega), if_pos h]
theorem strL_esc0 {c : UInt8} (out : List UInt8) (n : Nat) (h : c.toNat = 92) : strL [c] out n = ([], 0, 3) := by unfold strL; rw [if_neg (by omega), if_neg (by omega), if_pos h]
theorem strL_esc1 {c d : UInt8} (t out : List UInt8) (n : Nat) (h : c.toNat = 92) (hd : d.toNat = 10) : strL (c :: d :: t) out n = ([], 0, 3) := by
  unfold strL; rw [if_neg (by omega), if_neg (by omega), if_pos h]; simp only; rw [if_pos hd]
theorem strL_esc2 {c d : UInt8} (t out : List UInt8) (n : Nat) (h : c.toNat = 92) (hd : d.toNat ≠ 10) (h2 : d.toNat ≠ 34 ∧ d.toNat ≠ 92) : strL (c :: d :: t) out n = ([], 0, 4) := by
  unfold strL; rw [if_neg (by omega), if_neg (by omega), if_pos h]; simp only; rw [if_neg hd, if_pos h2]
theorem strL_esc3 {c d : UInt8} (t out : List UInt8) (n : Nat) (h : c.toNat = 92) (h2 : d.toNat = 34 ∨ d.toNat = 92) (h3 : 32 < out.length + 1) : strL (c :: d :: t) out n = ([], 0, 2) := by
  unfold strL; rw [if_neg (by omega), if_neg (by omega), if_pos h]; simp only; rw [if_neg (by omega), if_neg (by omega), if_pos h3]
theorem strL_esc4 {c d : UInt8} (t out : List UInt8) (n : Nat) (h : c.toNat = 92) (h2 : d.toNat = 34 ∨ d.toNat = 92) (h3 : ¬ 32 < out.length + 1) : strL (c :: d :: t) out n = strL t (out ++ [d]) (n + 2) := by
  conv => lhs; unfold strL
  rw [if_neg (by omega), if_neg (by omega), if_pos h]; simp only; rw [if_neg (by omega), if_neg (by omega), if_neg h3]
theorem strL_bad {c : UInt8} (t out : List UInt8) (n : Nat) (h1 : c.toNat ≠ 10) (h : isPl c = false) : strL (c :: t) out n = ([], 0, 4) := by
  have : ¬ (32 ≤ c.toNat ∧ c.toNat ≤ 126) := by simpa [isPl] using h
  unfold strL; rw [if_neg h1, if_neg (by omega), if_neg (by omega), if_pos h]
theorem strL_lim {c : UInt8} (t out : List UInt8) (n : Nat) (h1 : c.toNat ≠ 34) (h2 : c.toNat ≠ 92) (h : isPl c = true) (h3 : 32 < out.length + 1) : strL (c :: t) out n = ([], 0, 2) := by
  have : 32 ≤ c.toNat ∧ c.toNat ≤ 126 := by simpa [isPl] using h
  unfold strL; rw [if_neg (by omega), if_neg h1, if_neg h2, if_neg (by rw [h]; simp), if_pos h3]
theorem strL_ok {c : UInt8} (t out : List UInt8) (n : Nat) (h1 : c.toNat ≠ 34) (h2 : c.toNat ≠ 92) (h : isPl c = true) (h3 : ¬ 32 < out.length + 1) : strL (c :: t) out n = strL t (out ++ [c]) (n + 1) := by
  have : 32 ≤ c.toNat ∧ c.toNat ≤ 126 := by simpa [isPl] using h
  conv => lhs; unfold strL
  rw [if_neg (by omega), if_neg h1, if_neg h2, if_neg (by rw [h]; simp), if_neg h3]

theorem strL_app (s : List UInt8) : ∀ (k : Nat) (l out : List UInt8) (n : Nat), l.length ≤ k → (strL l out n).2.2 = 0 → strL (l ++ s) out n = strL l out n := by
  intro k
  induction k with
  | zero =>
    intro l out n hk h
    have : l = [] := List.length_eq_zero_iff.1 (by omega)
    subst this
    simp [strL] at h
  | succ k ih =>
    intro l out n hk h
    cases l with
    | nil => simp [strL] at h
    | cons c t =>
      rw [List.cons_append]
      unfold strL at h ⊢
      by_cases h1 : c.toNat = 10
      · simp [h1] at h
      · rw [if_neg h1] at h ⊢
        rw [if_neg h1]
        by_cases h2 : c.toNat = 34
        · rw [if_pos h2, if_pos h2]
        · rw [if_neg h2] at h ⊢
          rw [if_neg h2]
          by_cases h3 : c.toNat = 92
          · rw [if_pos h3] at h ⊢
            rw [if_pos h3]
            cases t with
            | nil => simp at h
            | cons d t' =>
              simp only [List.cons_append] at h ⊢
              by_cases h4 : d.toNat = 10
              · simp [h4] at h
              · rw [if_neg h4] at h ⊢
                rw [if_neg h4]
                by_cases h5 : d.toNat ≠ 34 ∧ d.toNat ≠ 92
                · simp [h5] at h
                · rw [if_neg h5] at h ⊢
                  rw [if_neg h5]
                  by_cases h6 : 32 < out.length + 1
                  · simp [h6] at h
                  · rw [if_neg h6] at h ⊢
                    rw [if_neg h6]
                    exact ih t' _ _ (by simp at hk; omega) h
          · rw [if_neg h3] at h ⊢
            rw [if_neg h3]
            by_cases h4 : isPl c = false
            · simp [h4] at h
            · rw [if_neg h4] at h ⊢
              rw [if_neg h4]
              by_cases h6 : 32 < out.length + 1
              · simp [h6] at h
              · rw [if_neg h6] at h ⊢
                rw [if_neg h6]
                exact ih t _ _ (by simp at hk; omega) h

theorem strL_esc : ∀ (l out : List UInt8) (n : Nat), l.all isPl = true → out.length + l.length ≤ 32 → strL (escL l ++ [34]) out n = (out ++ l, n + (escL l).length + 1, 0) := by
  intro l
  induction l with
  | nil =>
    intro out n _ _
    simp [escL, strL]
  | cons c l ih =>
    intro out n ha hl
    rw [List.all_cons, Bool.and_eq_true] at ha
    simp only [List.length_cons] at hl
    have hc : 32 ≤ c.toNat ∧ c.toNat ≤ 126 := by have := ha.1; simpa [isPl] using this
    by_cases h : c.toNat = 34 ∨ c.toNat = 92
    · have e : escL (c :: l) = 92 :: c :: escL l := by simp [escL, h]
      rw [e, List.cons_append, List.cons_append]
      unfold strL
      rw [if_neg (by decide), if_neg (by decide), if_pos (by decide)]
      simp only
      rw [if_neg (by omega), if_neg (by omega), if_neg (by omega), ih _ _ ha.2 (by simp; omega)]
      simp; omega
    · have e : escL (c :: l) = c :: escL l := by simp [escL, h]
      rw [e, List.cons_append]
      unfold strL
      rw [if_neg (by omega), if_neg (by omega), if_neg (by omega), if_neg (by rw [ha.1]; simp), if_neg (by omega), ih _ _ ha.2 (by simp; omega)]
      simp; omega

/-! ### One token -/
structure Tok where
  kind : Int
  text : List UInt8
  num : Int
  line : Int

section
variable (pr : List UInt8 → Int × Int)
/-- The token at the beginning of l (its line left 0), its length, the error. -/
def oneL (l : List UInt8) : Tok × Nat × Int :=
  if 0 < wordLen l then
    if isKw (l.take (wordLen l)) then (⟨2, l.take (wordLen l), 0, 0⟩, wordLen l, 0)
    else if 16 < wordLen l then (⟨0, [], 0, 0⟩, 0, 2)
    else (⟨1, l.take (wordLen l), 0, 0⟩, wordLen l, 0)
  else if 0 < numLen l then (⟨3, [], (pr (l.take (numLen l))).1, 0⟩, numLen l, (pr (l.take (numLen l))).2)
  else if l.head? = some 34 then (⟨4, (strL l.tail [] 1).1, 0, 0⟩, (strL l.tail [] 1).2.1, (strL l.tail [] 1).2.2)
  else if 1 < l.length ∧ isMk (l.take 2) = true then (⟨5, l.take 2, 0, 0⟩, 2, 0)
  else if isMk (l.take 1) then (⟨5, l.take 1, 0, 0⟩, 1, 0)
  else (⟨0, [], 0, 0⟩, 0, 4)

theorem mk_two (x : UInt8) (h : isMk [x, 32] = true) : False := by
  unfold isMk mks at h
  simp at h

theorem oneL_app (l s : List UInt8) (hl : l ≠ []) (h : (oneL pr l).2.2 = 0) : oneL pr (l ++ 32 :: s) = oneL pr l := by
  have ew := wordLen_stop l s 32 (by decide)
  have en := numLen_stop l s 32 hl (by decide)
  have tw : (l ++ 32 :: s).take (wordLen l) = l.take (wordLen l) := List.take_append_of_le_length (wordLen_le l)
  have tn : (l ++ 32 :: s).take (numLen l) = l.take (numLen l) := List.take_append_of_le_length (numLen_le l)
  unfold oneL at h ⊢
  rw [ew, en, tw, tn]
  by_cases h1 : 0 < wordLen l
  · rw [if_pos h1, if_pos h1]
  · rw [if_neg h1] at h ⊢
    rw [if_neg h1]
    by_cases h2 : 0 < numLen l
    · rw [if_pos h2, if_pos h2]
    · rw [if_neg h2] at h ⊢
      rw [if_neg h2]
      cases l with
      | nil => exact absurd rfl hl
      | cons a t =>
        have eh : (a :: t ++ 32 :: s).head? = (a :: t).head? := rfl
        have et : (a :: t ++ 32 :: s).tail = (a :: t).tail ++ 32 :: s := rfl
        rw [eh, et]
        by_cases h3 : (a :: t).head? = some 34
        · rw [if_pos h3] at h ⊢
          rw [if_pos h3, strL_app (32 :: s) t.length (a :: t).tail [] 1 (Nat.le_refl _) h]
        · rw [if_neg h3] at h ⊢
          rw [if_neg h3]
          cases t with
          | nil =>
            have n1 : ¬ (1 < ([a] ++ 32 :: s).length ∧ isMk (([a] ++ 32 :: s).take 2) = true) := fun e => mk_two a (by simpa using e.2)
            have n2 : ¬ (1 < [a].length ∧ isMk ([a].take 2) = true) := by simp
            rw [if_neg n1, if_neg n2]
            rfl
          | cons b t =>
            rw [show ((a :: b :: t) ++ 32 :: s).take 2 = (a :: b :: t).take 2 from rfl, show ((a :: b :: t) ++ 32 :: s).take 1 = (a :: b :: t).take 1 from rfl]
            by_cases hk : isMk ((a :: b :: t).take 2) = true
            · rw [if_pos ⟨by simp, hk⟩, if_pos ⟨by simp, hk⟩]
            · have n1 : ¬ (1 < ((a :: b :: t) ++ 32 :: s).length ∧ isMk ((a :: b :: t).take 2) = true) := fun e => hk e.2
              have n2 : ¬ (1 < (a :: b :: t).length ∧ isMk ((a :: b :: t).take 2) = true) := fun e => hk e.2
              rw [if_neg n1, if_neg n2]

/-- What a valid token is, and how it is written. -/
def valT (t : Tok) : Prop :=
  (t.kind = 1 ∧ isNm t.text = true ∧ t.num = 0) ∨ (t.kind = 2 ∧ isKw t.text = true ∧ t.num = 0) ∨ (t.kind = 3 ∧ t.text = [] ∧ -268435456 ≤ t.num ∧ t.num ≤ 268435456) ∨
  (t.kind = 4 ∧ t.text.length ≤ 32 ∧ t.text.all isPl = true ∧ t.num = 0) ∨ (t.kind = 5 ∧ isMk t.text = true ∧ t.num = 0)
variable (fm : Int → List UInt8)
def wrt (t : Tok) : List UInt8 := if t.kind = 3 then fm t.num else if t.kind = 4 then quoL t.text else t.text
/-- A number's text: digits and points behind a digit, or behind a minus and a digit. -/
def numForm (l : List UInt8) : Prop := ∃ c t, isDgt c = true ∧ t.all isNb = true ∧ (l = c :: t ∨ l = 45 :: c :: t)
theorem numForm_word {l : List UInt8} (h : numForm l) : wordLen l = 0 := by
  obtain ⟨c, t, hc, _, rfl | rfl⟩ := h
  · rw [wordLen_cons, let_nd hc]; rfl
  · rfl
theorem numForm_len {l : List UInt8} (h : numForm l) : numLen l = l.length := by
  obtain ⟨c, t, hc, ht, rfl | rfl⟩ := h
  · rw [numLen_cons, if_pos hc, takeWhile_all isNb t ht]; rfl
  · have hn : isNb c = true := by simp [isNb, isWd, hc]
    rw [numLen_cons, if_neg (by decide), if_pos ⟨by decide, by simp [hc]⟩, takeWhile_all isNb (c :: t) (by simp [hn, ht])]
    rfl

theorem kw_word {l : List UInt8} (h : isKw l = true) : wordLen l = l.length ∧ 0 < l.length := by
  unfold isKw kws at h
  simp at h
  rcases h with rfl | rfl | rfl | rfl | rfl | rfl <;> exact ⟨by decide, by decide⟩
theorem mk_none {l : List UInt8} (h : isMk l = true) : wordLen l = 0 ∧ numLen l = 0 ∧ l.head? ≠ some 34 ∧ ((l.length = 1) ∨ (l.length = 2)) := by
  unfold isMk mks at h
  simp at h
  rcases h with rfl | rfl | rfl | rfl | rfl | rfl | rfl | rfl | rfl | rfl <;> exact ⟨by decide, by decide, by decide, by decide⟩

/-- A valid token's text is that token. -/
theorem oneL_wrt (t : Tok) (hv : valT t) (hf : ∀ n, -268435456 ≤ n → n ≤ 268435456 → numForm (fm n) ∧ pr (fm n) = (n, 0)) :
    oneL pr (wrt fm t) = (⟨t.kind, t.text, t.num, 0⟩, (wrt fm t).length, 0) ∧ wrt fm t ≠ [] := by
  obtain ⟨kind, text, num, line⟩ := t
  unfold valT at hv
  unfold wrt
  simp only at hv ⊢
  rcases hv with ⟨rfl, h, rfl⟩ | ⟨rfl, h, rfl⟩ | ⟨rfl, rfl, h1, h2⟩ | ⟨rfl, h1, h2, rfl⟩ | ⟨rfl, h, rfl⟩
  · rw [if_neg (by decide), if_neg (by decide)]
    simp only [isNm, Bool.and_eq_true, decide_eq_true_eq, Bool.not_eq_true'] at h
    obtain ⟨⟨⟨h1, h2⟩, h3⟩, h4⟩ := h
    have hne : text ≠ [] := by intro e; subst e; simp at h1
    have hp : 0 < text.length := List.length_pos_iff.2 hne
    refine ⟨?_, hne⟩
    unfold oneL
    rw [if_pos (by omega), h2, List.take_length, if_neg (by rw [h4]; simp), if_neg (by omega)]
  · rw [if_neg (by decide), if_neg (by decide)]
    obtain ⟨h2, hp⟩ := kw_word h
    refine ⟨?_, List.length_pos_iff.1 hp⟩
    unfold oneL
    rw [if_pos (by omega), h2, List.take_length, if_pos h]
  · rw [if_pos rfl]
    obtain ⟨hn, hp⟩ := hf num h1 h2
    have e1 := numForm_word hn
    have e2 := numForm_len hn
    have hl : 0 < (fm num).length := by obtain ⟨c, t, _, _, h | h⟩ := hn <;> rw [h] <;> simp
    refine ⟨?_, List.length_pos_iff.1 hl⟩
    unfold oneL
    rw [if_neg (by omega), if_pos (by omega), e2, List.take_length, hp]
  · rw [if_neg (by decide), if_pos rfl]
    refine ⟨?_, by simp [quoL]⟩
    have e := strL_esc text [] 1 h2 (by simpa using h1)
    have w0 : wordLen (quoL text) = 0 := rfl
    have n0 : numLen (quoL text) = 0 := rfl
    unfold oneL
    rw [if_neg (by omega), if_neg (by omega), if_pos (show (quoL text).head? = some 34 from rfl)]
    show (Tok.mk 4 (strL (escL text ++ [34]) [] 1).1 0 0, (strL (escL text ++ [34]) [] 1).2.1, (strL (escL text ++ [34]) [] 1).2.2) = _
    rw [e]
    simp [quoL]; omega
  · rw [if_neg (by decide), if_neg (by decide)]
    obtain ⟨h1, h2, h3, h4⟩ := mk_none h
    have hne : text ≠ [] := by intro e; subst e; simp at h4
    refine ⟨?_, hne⟩
    unfold oneL
    rw [if_neg (by omega), if_neg (by omega), if_neg h3]
    rcases h4 with h4 | h4
    · rw [if_neg (by omega), List.take_of_length_le (by omega), if_pos h, h4]
    · rw [if_pos ⟨by omega, by rw [List.take_of_length_le (by omega)]; exact h⟩, List.take_of_length_le (by omega), h4]

/-! ### All tokens -/
/-- The tokens of a source from a line on, inside a comment or not: tokens, line of the error, error. -/
def tkz : List UInt8 → Int → Bool → List Tok × Int × Int
  | [], _, _ => ([], 0, 0)
  | c :: t, line, com =>
    if c.toNat = 10 then tkz t (line + 1) false
    else if com || isBl c then tkz t line (com || decide (c.toNat = 35))
    else
      if (oneL pr (c :: t)).2.2 ≠ 0 then ([], line, (oneL pr (c :: t)).2.2)
      else
        if (tkz (t.drop ((oneL pr (c :: t)).2.1 - 1)) line false).2.2 ≠ 0 then ([], (tkz (t.drop ((oneL pr (c :: t)).2.1 - 1)) line false).2.1, (tkz (t.drop ((oneL pr (c :: t)).2.1 - 1)) line false).2.2)
        else ({ (oneL pr (c :: t)).1 with line := line } :: (tkz (t.drop ((oneL pr (c :: t)).2.1 - 1)) line false).1, 0, 0)
  termination_by l => l.length
  decreasing_by all_goals (simp only [List.length_cons, List.length_drop]; omega)

/-- One token ahead of what follows. -/
def comb (t : Tok) (r : List Tok × Int × Int) : List Tok × Int × Int := if r.2.2 ≠ 0 then ([], r.2.1, r.2.2) else (t :: r.1, 0, 0)
theorem tkz_nil (line : Int) (com : Bool) : tkz pr [] line com = ([], 0, 0) := by rw [tkz]
theorem tkz_lf (c : UInt8) (t : List UInt8) (line : Int) (com : Bool) (h : c.toNat = 10) : tkz pr (c :: t) line com = tkz pr t (line + 1) false := by rw [tkz, if_pos h]
theorem tkz_skip (c : UInt8) (t : List UInt8) (line : Int) (com : Bool) (h : c.toNat ≠ 10) (hs : (com || isBl c) = true) : tkz pr (c :: t) line com = tkz pr t line (com || decide (c.toNat = 35)) := by rw [tkz, if_neg h, if_pos hs]
theorem tkz_err (c : UInt8) (t : List UInt8) (line : Int) (h : c.toNat ≠ 10) (hs : isBl c = false) (he : (oneL pr (c :: t)).2.2 ≠ 0) : tkz pr (c :: t) line false = ([], line, (oneL pr (c :: t)).2.2) := by
  rw [tkz, if_neg h, if_neg (by simp [hs]), if_pos he]

theorem strL_len : ∀ (k : Nat) (l out : List UInt8) (n : Nat), l.length ≤ k → (strL l out n).2.2 = 0 → n + 1 ≤ (strL l out n).2.1 ∧ (strL l out n).2.1 ≤ n + l.length ∧ (strL l out n).1.length + n + 1 ≤ out.length + (strL l out n).2.1 ∧ (strL l out n).1.length ≤ max out.length 32 := by
  intro k
  induction k with
  | zero =>
    intro l out n hk h
    have : l = [] := List.length_eq_zero_iff.1 (by omega)
    subst this
    simp [strL] at h
  | succ k ih =>
    intro l out n hk h
    cases l with
    | nil => simp [strL] at h
    | cons c t =>
      simp only [List.length_cons] at hk
      unfold strL at h ⊢
      by_cases h1 : c.toNat = 10
      · simp [h1] at h
      · rw [if_neg h1] at h ⊢
        by_cases h2 : c.toNat = 34
        · rw [if_pos h2]
          simp only [List.length_cons]
          omega
        · rw [if_neg h2] at h ⊢
          by_cases h3 : c.toNat = 92
          · rw [if_pos h3] at h ⊢
            cases t with
            | nil => simp at h
            | cons d t' =>
              simp only [List.length_cons] at hk h ⊢
              by_cases h4 : d.toNat = 10
              · simp [h4] at h
              · rw [if_neg h4] at h ⊢
                by_cases h5 : d.toNat ≠ 34 ∧ d.toNat ≠ 92
                · simp [h5] at h
                · rw [if_neg h5] at h ⊢
                  by_cases h6 : 32 < out.length + 1
                  · simp [h6] at h
                  · rw [if_neg h6] at h ⊢
                    have := ih t' (out ++ [d]) (n + 2) (by omega) h
                    simp only [List.length_append, List.length_cons, List.length_nil] at this
                    omega
          · rw [if_neg h3] at h ⊢
            by_cases h4 : isPl c = false
            · simp [h4] at h
            · rw [if_neg h4] at h ⊢
              by_cases h6 : 32 < out.length + 1
              · simp [h6] at h
              · rw [if_neg h6] at h ⊢
                have := ih t (out ++ [c]) (n + 1) (by omega) h
                simp only [List.length_append, List.length_cons, List.length_nil] at this ⊢
                omega

/-- A token takes at least one byte and no more than there are. -/
theorem oneL_len (l : List UInt8) (hl : l ≠ []) (h : (oneL pr l).2.2 = 0) : 1 ≤ (oneL pr l).2.1 ∧ (oneL pr l).2.1 ≤ l.length ∧ (oneL pr l).1.text.length ≤ l.length := by
  have hp : 0 < l.length := List.length_pos_iff.2 hl
  have hw := wordLen_le l
  have hn := numLen_le l
  unfold oneL at h ⊢
  by_cases h1 : 0 < wordLen l
  · rw [if_pos h1] at h ⊢
    by_cases h2 : isKw (l.take (wordLen l)) = true
    · rw [if_pos h2]; simp only [List.length_take]; omega
    · rw [if_neg h2] at h ⊢
      by_cases h3 : 16 < wordLen l
      · rw [if_pos h3] at h; simp at h
      · rw [if_neg h3]; simp only [List.length_take]; omega
  · rw [if_neg h1] at h ⊢
    by_cases h2 : 0 < numLen l
    · rw [if_pos h2]; simp only [List.length_nil]; omega
    · rw [if_neg h2] at h ⊢
      by_cases h3 : l.head? = some 34
      · rw [if_pos h3] at h ⊢
        have := strL_len l.tail.length l.tail [] 1 (Nat.le_refl _) h
        simp only [List.length_tail, List.length_nil] at this ⊢
        omega
      · rw [if_neg h3] at h ⊢
        by_cases h4 : 1 < l.length ∧ isMk (l.take 2) = true
        · rw [if_pos h4]; simp only [List.length_take]; omega
        · rw [if_neg h4] at h ⊢
          by_cases h5 : isMk (l.take 1) = true
          · rw [if_pos h5]; simp only [List.length_take]; omega
          · rw [if_neg h5] at h; simp at h

theorem tkz_tok (c : UInt8) (t : List UInt8) (line : Int) (h : c.toNat ≠ 10) (hs : isBl c = false) (he : (oneL pr (c :: t)).2.2 = 0) :
    tkz pr (c :: t) line false = comb { (oneL pr (c :: t)).1 with line := line } (tkz pr ((c :: t).drop (oneL pr (c :: t)).2.1) line false) := by
  have hn := (oneL_len pr (c :: t) (by simp) he).1
  have e : (c :: t).drop (oneL pr (c :: t)).2.1 = t.drop ((oneL pr (c :: t)).2.1 - 1) := by
    obtain ⟨m, hm⟩ : ∃ m, (oneL pr (c :: t)).2.1 = m + 1 := ⟨(oneL pr (c :: t)).2.1 - 1, by omega⟩
    rw [hm]; rfl
  rw [tkz, if_neg h, if_neg (by simp [hs]), if_neg (by simpa using he), e]
  rfl

/-- A token does not begin with a blank, a line's end or a comment. -/
theorem oneL_start (c : UInt8) (t : List UInt8) (h : (oneL pr (c :: t)).2.2 = 0) : c.toNat ≠ 10 ∧ isBl c = false := by
  have key : ∀ x : UInt8, (x = 10 ∨ x = 32 ∨ x = 9 ∨ x = 35) → (oneL pr (x :: t)).2.2 = 4 := by
    intro x hx
    have hw : wordLen (x :: t) = 0 := by rcases hx with rfl | rfl | rfl | rfl <;> rfl
    have hn : numLen (x :: t) = 0 := by rcases hx with rfl | rfl | rfl | rfl <;> rfl
    have hh : (x :: t).head? ≠ some 34 := by rcases hx with rfl | rfl | rfl | rfl <;> simp
    have h1 : isMk ((x :: t).take 1) ≠ true := by rcases hx with rfl | rfl | rfl | rfl <;> simp [isMk, mks]
    have h2 : ¬ (1 < (x :: t).length ∧ isMk ((x :: t).take 2) = true) := by
      rintro ⟨_, h2⟩
      revert h2
      cases t with
      | nil => rcases hx with rfl | rfl | rfl | rfl <;> simp [isMk, mks]
      | cons b t => rcases hx with rfl | rfl | rfl | rfl <;> simp [isMk, mks]
    unfold oneL
    rw [if_neg (by omega), if_neg (by omega), if_neg hh, if_neg h2, if_neg h1]
  have inj : ∀ k : UInt8, c.toNat = k.toNat → c = k := fun k e => UInt8.toNat_inj.1 e
  refine ⟨fun e => ?_, ?_⟩
  · have := key c (Or.inl (inj 10 e)); omega
  · cases hb : isBl c with
    | false => rfl
    | true =>
      simp only [isBl, Bool.or_eq_true, decide_eq_true_eq] at hb
      rcases hb with (e | e) | e
      · have := key c (Or.inr (Or.inl (inj 32 e))); omega
      · have := key c (Or.inr (Or.inr (Or.inl (inj 9 e)))); omega
      · have := key c (Or.inr (Or.inr (Or.inr (inj 35 e)))); omega

/-! ### A joined text -/
def joinL : List Tok → List UInt8
  | [] => []
  | [t] => wrt fm t
  | t :: u :: l => wrt fm t ++ 32 :: joinL (u :: l)
theorem tkz_join (hf : ∀ n, -268435456 ≤ n → n ≤ 268435456 → numForm (fm n) ∧ pr (fm n) = (n, 0)) (line : Int) : ∀ l : List Tok, (∀ t ∈ l, valT t) → tkz pr (joinL fm l) line false = (l.map fun t => { t with line := line }, 0, 0) := by
  intro l
  induction l with
  | nil => intro _; exact tkz_nil pr line false
  | cons t l ih =>
    intro hv
    obtain ⟨ho, hne⟩ := oneL_wrt pr fm t (hv t (by simp)) hf
    have he : (oneL pr (wrt fm t)).2.2 = 0 := by rw [ho]
    obtain ⟨c, r, hr⟩ : ∃ c r, wrt fm t = c :: r := by
      cases h : wrt fm t with
      | nil => exact absurd h hne
      | cons c r => exact ⟨c, r, rfl⟩
    cases l with
    | nil =>
      show tkz pr (wrt fm t) line false = _
      have hs := oneL_start pr c r (by rw [← hr]; exact he)
      have := tkz_tok pr c r line hs.1 hs.2 (by rw [← hr]; exact he)
      rw [← hr, ho, List.drop_length, tkz_nil] at this
      rw [this]
      rfl
    | cons u l =>
      have ih' := ih (fun x hx => hv x (by simp [hx]))
      show tkz pr (wrt fm t ++ 32 :: joinL fm (u :: l)) line false = _
      have ha := oneL_app pr (wrt fm t) (joinL fm (u :: l)) hne he
      have e : wrt fm t ++ 32 :: joinL fm (u :: l) = c :: (r ++ 32 :: joinL fm (u :: l)) := by rw [hr]; rfl
      have he' : (oneL pr (c :: (r ++ 32 :: joinL fm (u :: l)))).2.2 = 0 := by rw [← e, ha]; exact he
      have hs := oneL_start pr c _ he'
      have := tkz_tok pr c _ line hs.1 hs.2 he'
      rw [← e, ha, ho, List.drop_left, tkz_skip pr 32 _ line false (by decide) (by decide)] at this
      rw [this]
      show comb _ (tkz pr (joinL fm (u :: l)) line false) = _
      rw [ih']
      rfl

theorem joinL_cons (t : Tok) (l : List Tok) (h : l ≠ []) : joinL fm (t :: l) = wrt fm t ++ 32 :: joinL fm l := by
  cases l with
  | nil => exact absurd rfl h
  | cons u l => rfl
theorem joinL_app : ∀ (a b : List Tok), a ≠ [] → b ≠ [] → joinL fm (a ++ b) = joinL fm a ++ 32 :: joinL fm b := by
  intro a
  induction a with
  | nil => intro b h; exact absurd rfl h
  | cons t a ih =>
    intro b _ hb
    cases a with
    | nil => exact joinL_cons fm t b hb
    | cons u a =>
      rw [List.cons_append, joinL_cons fm t _ (by simp), joinL_cons fm t (u :: a) (by simp), ih b (by simp) hb]
      simp
theorem joinL_snoc (l : List Tok) (t : Tok) : joinL fm (l ++ [t]) = if l.isEmpty then wrt fm t else joinL fm l ++ 32 :: wrt fm t := by
  cases l with
  | nil => rfl
  | cons u l => exact joinL_app fm (u :: l) [t] (by simp) (by simp)
theorem joinL_take (l : List Tok) (k : Nat) : (joinL fm (l.take k)).length ≤ (joinL fm l).length := by
  rcases Nat.eq_zero_or_pos (l.take k).length with h | h
  · rw [List.length_eq_zero_iff.1 h]; exact Nat.zero_le _
  · rcases Nat.lt_or_ge k l.length with hk | hk
    · have e := joinL_app fm (l.take k) (l.drop k) (List.length_pos_iff.1 h) (List.length_pos_iff.1 (by rw [List.length_drop]; omega))
      rw [List.take_append_drop] at e
      rw [e, List.length_append]; omega
    · rw [List.take_of_length_le hk]; exact Nat.le_refl _

/-! ### Lines -/
def shift (k : Int) (r : List Tok × Int × Int) : List Tok × Int × Int := (r.1.map fun t => { t with line := t.line + k }, if r.2.2 ≠ 0 then r.2.1 + k else 0, r.2.2)
theorem tkz_line0 : ∀ (m : Nat) (l : List UInt8) (line : Int) (com : Bool), l.length ≤ m → (tkz pr l line com).2.2 = 0 → (tkz pr l line com).2.1 = 0 := by
  intro m
  induction m with
  | zero =>
    intro l line com hm _
    have : l = [] := List.length_eq_zero_iff.1 (by omega)
    subst this
    rw [tkz_nil]
  | succ m ih =>
    intro l line com hm h
    cases l with
    | nil => rw [tkz_nil]
    | cons c t =>
      simp only [List.length_cons] at hm
      by_cases h1 : c.toNat = 10
      · rw [tkz_lf pr c t line com h1] at h ⊢; exact ih t _ _ (by omega) h
      · by_cases h2 : (com || isBl c) = true
        · rw [tkz_skip pr c t line com h1 h2] at h ⊢; exact ih t _ _ (by omega) h
        · simp only [Bool.or_eq_true, not_or, Bool.not_eq_true] at h2
          obtain ⟨rfl, h3⟩ := h2
          by_cases he : (oneL pr (c :: t)).2.2 = 0
          · rw [tkz_tok pr c t line h1 h3 he] at h ⊢
            unfold comb at h ⊢
            split at h
            · rename_i hx; exact absurd h hx
            · rename_i hx; rw [if_neg hx]
          · rw [tkz_err pr c t line h1 h3 he] at h
            exact absurd h he
theorem tkz_shift (k : Int) : ∀ (m : Nat) (l : List UInt8) (line : Int) (com : Bool), l.length ≤ m → tkz pr l (line + k) com = shift k (tkz pr l line com) := by
  intro m
  induction m with
  | zero =>
    intro l line com hm
    have : l = [] := List.length_eq_zero_iff.1 (by omega)
    subst this
    rw [tkz_nil, tkz_nil]; rfl
  | succ m ih =>
    intro l line com hm
    cases l with
    | nil => rw [tkz_nil, tkz_nil]; rfl
    | cons c t =>
      simp only [List.length_cons] at hm
      by_cases h1 : c.toNat = 10
      · rw [tkz_lf pr c t _ com h1, tkz_lf pr c t _ com h1, show line + k + 1 = line + 1 + k by omega]
        exact ih t _ _ (by omega)
      · by_cases h2 : (com || isBl c) = true
        · rw [tkz_skip pr c t _ com h1 h2, tkz_skip pr c t _ com h1 h2]
          exact ih t _ _ (by omega)
        · simp only [Bool.or_eq_true, not_or, Bool.not_eq_true] at h2
          obtain ⟨rfl, h3⟩ := h2
          by_cases he : (oneL pr (c :: t)).2.2 = 0
          · have hn := (oneL_len pr (c :: t) (by simp) he).1
            have hd : ((c :: t).drop (oneL pr (c :: t)).2.1).length ≤ m := by simp only [List.length_drop, List.length_cons]; omega
            rw [tkz_tok pr c t _ h1 h3 he, tkz_tok pr c t _ h1 h3 he, ih _ line false hd]
            unfold comb shift
            simp only
            by_cases hx : (tkz pr ((c :: t).drop (oneL pr (c :: t)).2.1) line false).2.2 = 0
            · simp [hx]
            · simp [hx]
          · rw [tkz_err pr c t _ h1 h3 he, tkz_err pr c t _ h1 h3 he]
            unfold shift
            simp [he]
/-- Tokens read so far ahead of what follows. -/
def combs (ts : List Tok) (r : List Tok × Int × Int) : List Tok × Int × Int := (if r.2.2 ≠ 0 then [] else ts ++ r.1, r.2.1, r.2.2)
theorem tkz_none : ∀ (m : Nat) (l : List UInt8) (line : Int) (com : Bool), l.length ≤ m → (tkz pr l line com).2.2 ≠ 0 → (tkz pr l line com).1 = [] := by
  intro m
  induction m with
  | zero =>
    intro l line com hm h
    have : l = [] := List.length_eq_zero_iff.1 (by omega)
    subst this
    rw [tkz_nil]
  | succ m ih =>
    intro l line com hm h
    cases l with
    | nil => rw [tkz_nil]
    | cons c t =>
      simp only [List.length_cons] at hm
      by_cases h1 : c.toNat = 10
      · rw [tkz_lf pr c t line com h1] at h ⊢; exact ih t _ _ (by omega) h
      · by_cases h2 : (com || isBl c) = true
        · rw [tkz_skip pr c t line com h1 h2] at h ⊢; exact ih t _ _ (by omega) h
        · simp only [Bool.or_eq_true, not_or, Bool.not_eq_true] at h2
          obtain ⟨rfl, h3⟩ := h2
          by_cases he : (oneL pr (c :: t)).2.2 = 0
          · rw [tkz_tok pr c t line h1 h3 he] at h ⊢
            unfold comb at h ⊢
            split at h
            · rename_i hx; rw [if_pos hx]
            · exact absurd rfl h
          · rw [tkz_err pr c t line h1 h3 he]
theorem combs_nil (l : List UInt8) (line : Int) (com : Bool) : combs [] (tkz pr l line com) = tkz pr l line com := by
  unfold combs
  by_cases h : (tkz pr l line com).2.2 ≠ 0
  · rw [if_pos h, ← tkz_none pr l.length l line com (Nat.le_refl _) h]
  · rw [if_neg h]; rfl
theorem combs_tok (ts : List Tok) (t : Tok) (l : List UInt8) (line : Int) (com : Bool) : combs ts (comb t (tkz pr l line com)) = combs (ts ++ [t]) (tkz pr l line com) := by
  unfold combs comb
  by_cases h : (tkz pr l line com).2.2 ≠ 0
  · simp [h]
  · have h0 := tkz_line0 pr l.length l line com (Nat.le_refl _) (by simpa using h)
    simp only [ne_eq, Decidable.not_not] at h
    simp [h, h0]
/-- What stands behind a correct source in a comment changes nothing. -/
theorem tkz_tail (s : List UInt8) (hs : ∀ line com, tkz pr (32 :: s) line com = ([], 0, 0)) : ∀ (m : Nat) (l : List UInt8) (line : Int) (com : Bool), l.length ≤ m → (tkz pr l line com).2.2 = 0 → tkz pr (l ++ 32 :: s) line com = tkz pr l line com := by
  intro m
  induction m with
  | zero =>
    intro l line com hm _
    have : l = [] := List.length_eq_zero_iff.1 (by omega)
    subst this
    rw [tkz_nil, List.nil_append, hs]
  | succ m ih =>
    intro l line com hm h
    cases l with
    | nil => rw [tkz_nil, List.nil_append, hs]
    | cons c t =>
      simp only [List.length_cons] at hm
      rw [List.cons_append]
      by_cases h1 : c.toNat = 10
      · rw [tkz_lf pr c t _ com h1] at h ⊢
        rw [tkz_lf pr c _ _ com h1]
        exact ih t _ _ (by omega) h
      · by_cases h2 : (com || isBl c) = true
        · rw [tkz_skip pr c t _ com h1 h2] at h ⊢
          rw [tkz_skip pr c _ _ com h1 h2]
          exact ih t _ _ (by omega) h
        · simp only [Bool.or_eq_true, not_or, Bool.not_eq_true] at h2
          obtain ⟨rfl, h3⟩ := h2
          by_cases he : (oneL pr (c :: t)).2.2 = 0
          · obtain ⟨hn, hn2, _⟩ := oneL_len pr (c :: t) (by simp) he
            have ha := oneL_app pr (c :: t) s (by simp) he
            rw [List.cons_append] at ha
            have hd : ((c :: t).drop (oneL pr (c :: t)).2.1).length ≤ m := by simp only [List.length_drop, List.length_cons]; omega
            rw [tkz_tok pr c t _ h1 h3 he] at h ⊢
            rw [tkz_tok pr c _ _ h1 h3 (by rw [ha]; exact he), ha, ← List.cons_append, List.drop_append_of_le_length hn2]
            have h0 : (tkz pr ((c :: t).drop (oneL pr (c :: t)).2.1) line false).2.2 = 0 := by
              unfold comb at h
              split at h
              · rename_i hx; exact absurd h hx
              · rename_i hx; simpa using hx
            rw [ih _ line false hd h0]
          · rw [tkz_err pr c t _ h1 h3 he] at h
            exact absurd h he
/-- No more tokens than bytes. -/
theorem tkz_count : ∀ (m : Nat) (l : List UInt8) (line : Int) (com : Bool), l.length ≤ m → (tkz pr l line com).1.length ≤ l.length := by
  intro m
  induction m with
  | zero =>
    intro l line com hm
    have : l = [] := List.length_eq_zero_iff.1 (by omega)
    subst this
    rw [tkz_nil]; exact Nat.le_refl _
  | succ m ih =>
    intro l line com hm
    cases l with
    | nil => rw [tkz_nil]; exact Nat.le_refl _
    | cons c t =>
      simp only [List.length_cons] at hm ⊢
      by_cases h1 : c.toNat = 10
      · rw [tkz_lf pr c t _ com h1]; have := ih t (line + 1) false (by omega); omega
      · by_cases h2 : (com || isBl c) = true
        · rw [tkz_skip pr c t _ com h1 h2]; have := ih t line (com || decide (c.toNat = 35)) (by omega); omega
        · simp only [Bool.or_eq_true, not_or, Bool.not_eq_true] at h2
          obtain ⟨rfl, h3⟩ := h2
          by_cases he : (oneL pr (c :: t)).2.2 = 0
          · have hn := (oneL_len pr (c :: t) (by simp) he).1
            have hd : ((c :: t).drop (oneL pr (c :: t)).2.1).length ≤ t.length := by simp only [List.length_drop, List.length_cons]; omega
            have := ih ((c :: t).drop (oneL pr (c :: t)).2.1) line false (by omega)
            rw [tkz_tok pr c t _ h1 h3 he]
            unfold comb
            split
            · simp
            · simp only [List.length_cons]; omega
          · rw [tkz_err pr c t _ h1 h3 he]; exact Nat.zero_le _
theorem tkz_blank : ∀ (k : Nat) (line : Int) (com : Bool), tkz pr (List.replicate k 32) line com = ([], 0, 0) := by
  intro k
  induction k with
  | zero => intro line com; exact tkz_nil pr line com
  | succ k ih => intro line com; rw [List.replicate_succ, tkz_skip pr 32 _ line com (by decide) (by simp [isBl])]; exact ih _ _
/-- The statement's own prefix and suffix. -/
theorem tkz_prefix (l : List UInt8) : tkz pr ([9, 35, 32, 34, 120, 10, 32, 10] ++ l) 1 false = shift 2 (tkz pr l 1 false) := by
  rw [← tkz_shift pr 2 l.length l 1 false (Nat.le_refl _)]
  show tkz pr (9 :: 35 :: 32 :: 34 :: 120 :: 10 :: 32 :: 10 :: l) 1 false = _
  rw [tkz_skip pr 9 _ _ _ (by decide) (by decide), tkz_skip pr 35 _ _ _ (by decide) (by decide), tkz_skip pr 32 _ _ _ (by decide) (by decide), tkz_skip pr 34 _ _ _ (by decide) (by decide), tkz_skip pr 120 _ _ _ (by decide) (by decide),
    tkz_lf pr 10 _ _ _ (by decide), tkz_skip pr 32 _ _ _ (by decide) (by decide), tkz_lf pr 10 _ _ _ (by decide)]
  rfl
theorem tkz_suffix (l : List UInt8) (h : (tkz pr l 1 false).2.2 = 0) : tkz pr (l ++ [32, 35, 32, 125]) 1 false = tkz pr l 1 false := by
  refine tkz_tail pr [35, 32, 125] (fun line com => ?_) l.length l 1 false (Nat.le_refl _) h
  rw [tkz_skip pr 32 _ _ _ (by decide) (by simp [isBl]), tkz_skip pr 35 _ _ _ (by decide) (by simp [isBl]), tkz_skip pr 32 _ _ _ (by decide) (by simp [isBl]), tkz_skip pr 125 _ _ _ (by decide) (by simp), tkz_nil]
/-- The text that Quote returns is one string. -/
theorem tkz_quote (l : List UInt8) (h1 : l.length ≤ 32) (h2 : l.all isPl = true) (hf : ∀ n, -268435456 ≤ n → n ≤ 268435456 → numForm (fm n) ∧ pr (fm n) = (n, 0)) : tkz pr (quoL l) 1 false = ([⟨4, l, 0, 1⟩], 0, 0) :=
  tkz_join pr fm hf 1 [⟨4, l, 0, 0⟩] (fun t ht => by
    obtain rfl := List.mem_singleton.1 ht
    exact Or.inr (Or.inr (Or.inr (Or.inl ⟨rfl, h1, h2, rfl⟩))))
end
end Go.Proofs.Ytjeacpohanadnaa.lex
