/-
  Plain facts on the form of a number: the digits of a number make it, and a text of that form is the text of its value. No program is named here; no condition.
  Numbers as tokens: the text of n thousandths has the form of a number and is read back; what Parse answers, as a pair. No function of the program is named here; no condition.
  Slices of tokens of layer 6 in memory: as a row that a loop appends to, and as they are read. No condition.
  Valid tokens, how they are written and joined: plain facts. No function of the program is named here; no condition.
  What the exported functions of layer 6 answer, as plain functions, and what the chapter's example comes to. No function of the program is named here; no condition.
-/
import Derived.Test.YtjeacpohanadnaaMNb
import Derived.Test.YtjeacpohanadnaaParse
import Derived.Test.YtjeacpohanadnaaMNc
import Derived.Test.YtjeacpohanadnaaLexPlain
import Derived.Test.YtjeacpohanadnaaKit
import Derived.Test.YtjeacpohanadnaaRefLex2
namespace Go.Proofs.Ytjeacpohanadnaa

theorem valL_app (l r : List UInt8) : valL (l ++ r) = valL l * 10 ^ r.length + valL r := by
  have key : ∀ (r : List UInt8) (v : Nat), r.foldl (fun v c => 10 * v + (c.toNat - 48)) v = v * 10 ^ r.length + valL r := by
    intro r
    induction r with
    | nil => intro v; simp [valL]
    | cons c r ih =>
      intro v
      have e : valL (c :: r) = (10 * 0 + (c.toNat - 48)) * 10 ^ r.length + valL r := by
        show r.foldl _ (10 * 0 + (c.toNat - 48)) = _
        exact ih _
      rw [List.foldl_cons, ih, e, List.length_cons, Nat.pow_succ]
      simp only [Nat.add_mul, Nat.mul_comm 10 v, Nat.mul_assoc, Nat.mul_comm 10 (10 ^ r.length), Nat.mul_zero, Nat.zero_add]
      omega
  unfold valL
  rw [List.foldl_append, key]
  rfl

theorem valL_cons (c : UInt8) (r : List UInt8) : valL (c :: r) = (c.toNat - 48) * 10 ^ r.length + valL r := by
  have := valL_app [c] r
  simpa [valL] using this

theorem dig_range {c : UInt8} (h : isDig c = true) : 48 ≤ c.toNat ∧ c.toNat ≤ 57 := by simpa [isDig] using h
theorem dig_of {c : UInt8} (h : 48 ≤ c.toNat ∧ c.toNat ≤ 57) : isDig c = true := by simpa [isDig] using h
theorem u8_of {k : Nat} (h : k < 10) : (UInt8.ofNat (48 + k)).toNat = 48 + k := by
  rw [UInt8.toNat_ofNat']; omega

theorem valL_pos {c : UInt8} {r : List UInt8} (hc : isDig c = true) (h48 : c ≠ 48) : 10 ^ r.length ≤ valL (c :: r) := by
  rw [valL_cons]
  have h := dig_range hc
  have : c.toNat ≠ 48 := fun e => h48 (UInt8.toNat_inj.1 e)
  have h2 : 1 * 10 ^ r.length ≤ (c.toNat - 48) * 10 ^ r.length := Nat.mul_le_mul_right _ (by omega)
  omega

/-- The digits of the number that digits make, where none is idle. -/
theorem dec_valL (w : List UInt8) (ha : w.all isDig = true) (hne : w ≠ []) (h0 : 1 < w.length → w.head? ≠ some 48) : Lib.decDigits (valL w) = w := by
  induction hn : w.length generalizing w with
  | zero => exact absurd (List.length_eq_zero_iff.1 hn) hne
  | succ k ih =>
    obtain ⟨l, c, rfl⟩ : ∃ l c, w = l ++ [c] := ⟨w.dropLast, w.getLast hne, (List.dropLast_concat_getLast hne).symm⟩
    rw [List.all_append, Bool.and_eq_true] at ha
    have hc : isDig c = true := by simpa using ha.2
    have hr := dig_range hc
    have hl : l.length = k := by simpa using hn
    rw [valL_snoc]
    cases l with
    | nil =>
      rw [valL_nil, Lib.decDigits, dif_pos (by omega)]
      simp only [List.nil_append, List.cons.injEq, and_true]
      exact UInt8.toNat_inj.1 (by rw [u8_of (by omega)]; omega)
    | cons a l =>
      have ha1 : isDig a = true := by simp only [List.all_cons, Bool.and_eq_true] at ha; exact ha.1.1
      have h48 : a ≠ 48 := by
        intro e
        exact h0 (by simp) (by rw [e]; rfl)
      have hpos := valL_pos (r := l) ha1 h48
      have h1 : 1 ≤ 10 ^ l.length := Nat.one_le_pow _ _ (by decide)
      rw [Lib.decDigits, dif_neg (by omega)]
      rw [show (10 * valL (a :: l) + (c.toNat - 48)) / 10 = valL (a :: l) by omega, show (10 * valL (a :: l) + (c.toNat - 48)) % 10 = c.toNat - 48 by omega]
      rw [ih (a :: l) ha.1 (by simp) (fun _ => by simpa using h48) hl]
      have : UInt8.ofNat (48 + (c.toNat - 48)) = c := UInt8.toNat_inj.1 (by rw [u8_of (by omega)]; omega)
      rw [this]

/-- The digits of a number make it; they are digits; none is idle. -/
theorem dec_spec (u : Nat) : valL (Lib.decDigits u) = u ∧ (Lib.decDigits u).all isDig = true ∧ Lib.decDigits u ≠ [] ∧ (1 < (Lib.decDigits u).length → (Lib.decDigits u).head? ≠ some 48) := by
  induction u using Nat.strongRecOn with
  | _ u ih =>
    by_cases h : u < 10
    · rw [Lib.decDigits, dif_pos h]
      refine ⟨?_, ?_, by simp, by simp⟩
      · rw [valL_cons, u8_of h]; simp [valL]
      · simp only [List.all_cons, List.all_nil, Bool.and_true]
        exact dig_of (by rw [u8_of h]; omega)
    · have hi := ih (u / 10) (by omega)
      rw [Lib.decDigits, dif_neg h]
      refine ⟨?_, ?_, by simp, fun _ => ?_⟩
      · rw [valL_snoc, hi.1, u8_of (by omega)]; omega
      · rw [List.all_append, hi.2.1]
        simp only [List.all_cons, List.all_nil, Bool.and_true, Bool.true_and]
        exact dig_of (by rw [u8_of (by omega)]; omega)
      · obtain ⟨a, l, hal⟩ : ∃ a l, Lib.decDigits (u / 10) = a :: l := by
          cases hd : Lib.decDigits (u / 10) with
          | nil => exact absurd hd hi.2.2.1
          | cons a l => exact ⟨a, l, rfl⟩
        rw [hal] at hi ⊢
        simp only [List.cons_append, List.head?_cons, ne_eq, Option.some.injEq]
        intro e
        subst e
        cases l with
        | nil => have := hi.1; rw [valL_cons] at this; simp [valL] at this; omega
        | cons b l => exact hi.2.2.2 (by simp) rfl

/-! ### What follows the point -/
theorem valL_zeros (k : Nat) : valL (List.replicate k 48) = 0 := by
  induction k with
  | zero => rfl
  | succ k ih => rw [List.replicate_succ, valL_cons, ih]; simp
theorem valL_pad (d : List UInt8) : valL (d ++ List.replicate (3 - d.length) 48) = pad (valL d) d.length 3 := by
  rw [valL_app, valL_zeros, List.length_replicate]; rfl

theorem trim_pad (d : List UInt8) (k : Nat) (hl : d.getLast? ≠ some 48) : Lib.trimRightB (d ++ List.replicate k 48) 48 = d := by
  rw [Lib.trimRightB_take (d ++ List.replicate k 48) 48 d.length (by simp) ?_ ?_]
  · simp
  · intro j b hj hb
    rw [List.getElem?_append_right hj, List.getElem?_replicate] at hb
    split at hb
    · exact (Option.some.inj hb).symm
    · cases hb
  · intro b h0 hb hbc
    subst hbc
    rw [List.getElem?_append_left (by omega)] at hb
    rw [List.getLast?_eq_getElem?] at hl
    exact hl hb

theorem last_pos (d : List UInt8) (ha : d.all isDig = true) (h1 : 1 ≤ d.length) (hl : d.getLast? ≠ some 48) : 1 ≤ valL d := by
  obtain ⟨l, c, rfl⟩ : ∃ l c, d = l ++ [c] := ⟨d.dropLast, d.getLast (by intro h; rw [h] at h1; simp at h1), (List.dropLast_concat_getLast _).symm⟩
  rw [List.all_append, Bool.and_eq_true] at ha
  have hr := dig_range (c := c) (by simpa using ha.2)
  have : c.toNat ≠ 48 := fun e => hl (by rw [List.getLast?_append]; simp; exact UInt8.toNat_inj.1 e)
  rw [valL_snoc]
  omega

theorem frac_text (d : List UInt8) (ha : d.all isDig = true) (h1 : 1 ≤ d.length) (h3 : d.length ≤ 3) (hl : d.getLast? ≠ some 48) :
    1 ≤ pad (valL d) d.length 3 ∧ pad (valL d) d.length 3 ≤ 999 ∧ Lib.trimRightB ((Lib.decDigits (1000 + pad (valL d) d.length 3)).drop 1) 48 = d := by
  have hz := valL_pad d
  have hall : (d ++ List.replicate (3 - d.length) 48).all isDig = true := by
    rw [List.all_append, ha]
    simp only [List.all_replicate, Bool.true_and]
    split <;> rfl
  have hlen : (d ++ List.replicate (3 - d.length) 48).length = 3 := by simp; omega
  have hlt := valL_lt _ hall
  rw [hlen, hz] at hlt
  refine ⟨?_, by omega, ?_⟩
  · have := last_pos d ha h1 hl
    unfold pad
    have h2 : 1 * 1 ≤ valL d * 10 ^ (3 - d.length) := Nat.mul_le_mul this (Nat.one_le_pow _ _ (by decide))
    omega
  · have e : 1000 + pad (valL d) d.length 3 = valL (49 :: (d ++ List.replicate (3 - d.length) 48)) := by
      rw [valL_cons, hlen, hz]; rfl
    rw [e, dec_valL _ (by rw [List.all_cons, hall]; rfl) (by simp) (fun _ => by simp)]
    exact trim_pad d _ hl

theorem trim_split (l : List UInt8) : l = Lib.trimRightB l 48 ++ List.replicate (l.length - (Lib.trimRightB l 48).length) 48 ∧ (Lib.trimRightB l 48).getLast? ≠ some 48 := by
  have h := List.takeWhile_append_dropWhile (p := fun b : UInt8 => b == 48) (l := l.reverse)
  have h2 : l = (l.reverse.dropWhile fun b : UInt8 => b == 48).reverse ++ (l.reverse.takeWhile fun b : UInt8 => b == 48).reverse := by
    rw [← List.reverse_append, h, List.reverse_reverse]
  have hall : ∀ b ∈ (l.reverse.takeWhile fun b : UInt8 => b == 48).reverse, b = 48 := by
    intro b hb
    have := List.all_takeWhile (p := fun b : UInt8 => b == 48) (l := l.reverse)
    rw [List.all_eq_true] at this
    exact eq_of_beq (this b (by simpa using hb))
  have hlen := congrArg List.length h2
  rw [List.length_append] at hlen
  constructor
  · unfold Lib.trimRightB
    rw [show l.length - (l.reverse.dropWhile fun b : UInt8 => b == 48).reverse.length = (l.reverse.takeWhile fun b : UInt8 => b == 48).reverse.length by omega]
    rw [← List.eq_replicate_of_mem hall]
    exact h2
  · unfold Lib.trimRightB
    rw [List.getLast?_reverse]
    intro h3
    have := List.head?_dropWhile_not (fun b : UInt8 => b == 48) l.reverse
    rw [h3] at this
    simp at this

theorem frac_back (r : Nat) (h1 : 1 ≤ r) (h2 : r ≤ 999) : fracOf (46 :: Lib.trimRightB ((Lib.decDigits (1000 + r)).drop 1) 48) = some r := by
  have hs := dec_spec (1000 + r)
  have hl : (Lib.decDigits (1000 + r)).length = 4 := by rw [Lib.decDigits_length]; exact Lib.nDigits_unique 3 _ (by omega) (by omega)
  obtain ⟨c, x, hcx⟩ : ∃ c x, Lib.decDigits (1000 + r) = c :: x := by
    cases h : Lib.decDigits (1000 + r) with
    | nil => exact absurd h hs.2.2.1
    | cons c x => exact ⟨c, x, rfl⟩
  rw [hcx] at hs hl ⊢
  have hx3 : x.length = 3 := by simpa using hl
  have hxa : x.all isDig = true := by have := hs.2.1; rw [List.all_cons, Bool.and_eq_true] at this; exact this.2
  have hxv := valL_lt x hxa
  have hv := hs.1
  rw [valL_cons] at hv
  rw [hx3] at hv hxv
  have hvx : valL x = r := by omega
  show fracOf (46 :: Lib.trimRightB x 48) = some r
  have ht := trim_split x
  obtain ⟨d, hd⟩ : ∃ d, Lib.trimRightB x 48 = d := ⟨_, rfl⟩
  rw [hd] at ht ⊢
  have hdl : d.length ≤ 3 := by rw [← hd, ← hx3]; exact trim_le x 48
  rw [hx3] at ht
  have hpad := valL_pad d
  rw [← ht.1, hvx] at hpad
  have hda : d.all isDig = true := by
    rw [ht.1, List.all_append, Bool.and_eq_true] at hxa
    exact hxa.1
  have hd1 : 1 ≤ d.length := by
    cases d with
    | nil => simp [pad, valL] at hpad; omega
    | cons a d => simp
  rw [hpad]
  exact if_pos ⟨rfl, hd1, hdl, hda, ht.2⟩

/-! ### Texts and their values -/
theorem lead_nonempty {t : List UInt8} (h : (lead t).length ≠ 0) : lead t ≠ [] := fun e => h (by rw [e]; rfl)
theorem lead_head {t : List UInt8} (h : (lead t).length ≠ 0) : (lead t).head? = t.head? := by
  have e := lead_eq_take t
  rw [e, List.head?_take, if_neg (by omega)]

/-- The digits at the beginning are the digits of their number. -/
theorem lead_dec {t : List UInt8} (h0 : (lead t).length ≠ 0) (h1 : ¬ (1 < (lead t).length ∧ t.head? = some 48)) : Lib.decDigits (valL (lead t)) = lead t :=
  dec_valL (lead t) (List.all_eq_true.2 (lead_all t)) (lead_nonempty h0) (fun hl h => h1 ⟨hl, by rw [← lead_head h0]; exact h⟩)

theorem fracOf_some {r : List UInt8} {p : Nat} (h : fracOf r = some p) : (r = [] ∧ p = 0) ∨ ∃ d, r = 46 :: d ∧ 1 ≤ p ∧ p ≤ 999 ∧ Lib.trimRightB ((Lib.decDigits (1000 + p)).drop 1) 48 = d := by
  cases r with
  | nil => exact Or.inl ⟨rfl, (Option.some.inj h).symm⟩
  | cons c d =>
    by_cases hc : c = 46 ∧ 1 ≤ d.length ∧ d.length ≤ 3 ∧ d.all isDig = true ∧ d.getLast? ≠ some 48
    · have e : fracOf (c :: d) = some (pad (valL d) d.length 3) := if_pos hc
      rw [e] at h
      obtain rfl := Option.some.inj h
      obtain ⟨rfl, g1, g2, g3, g4⟩ := hc
      have := frac_text d g3 g1 g2 g4
      exact Or.inr ⟨d, rfl, this.1, this.2.1, this.2.2⟩
    · have e : fracOf (c :: d) = none := if_neg hc
      rw [e] at h
      cases h

/-- What the text of a value is, part by part. -/
theorem fmtL_eq (n : Int) (V p : Nat) (hm : n.natAbs = V * 1000 + p) (hp : p ≤ 999) : fmtL n = (if n < 0 then [45] else []) ++ Lib.decDigits V ++ (if p = 0 then [] else 46 :: Lib.trimRightB ((Lib.decDigits (1000 + p)).drop 1) 48) := by
  unfold fmtL
  rw [hm, show (V * 1000 + p) / 1000 = V by omega, show (V * 1000 + p) % 1000 = p by omega]

theorem valL_zero_lead {t : List UInt8} (h0 : (lead t).length ≠ 0) (h1 : ¬ (1 < (lead t).length ∧ t.head? = some 48)) (hv : valL (lead t) = 0) : lead t = [48] := by
  have h := lead_dec h0 h1
  rw [hv] at h
  rw [← h, Lib.decDigits, dif_pos (by omega)]
  rfl

/-- What Parse answers behind a sign, in one of three ways. -/
theorem parseT_ways (neg : Bool) (t : List UInt8) : parseT neg t = synV ∨ parseT neg t = ovfV ∨
    ∃ n : Int, parseT neg t = .tuple #[.int .i64 n, .int .i64 0] ∧ -268435456 ≤ n ∧ n ≤ 268435456 ∧ fmtL n = (if neg then [45] else []) ++ t := by
  by_cases hb : (lead t).length = 0 ∨ (1 < (lead t).length ∧ t.head? = some 48) ∨ (neg = true ∧ t = [48])
  · exact Or.inl (parseT_bad hb)
  · cases hf : fracOf (t.drop (lead t).length) with
    | none => exact Or.inl (parseT_none hf)
    | some p =>
      have e := parseT_some hb hf
      by_cases ho : 268435456 < valL (lead t) * 1000 + p
      · rw [if_pos ho] at e
        exact Or.inr (Or.inl e)
      · rw [if_neg ho] at e
        have h0 : (lead t).length ≠ 0 := fun h => hb (Or.inl h)
        have h1 : ¬ (1 < (lead t).length ∧ t.head? = some 48) := fun h => hb (Or.inr (Or.inl h))
        have hdec := lead_dec h0 h1
        have hsplit : lead t ++ t.drop (lead t).length = t := by
          have := lead_eq_take t
          rw [this, List.length_take, Nat.min_eq_left (lead_length t)]
          exact List.take_append_drop _ _
        have hfr := fracOf_some hf
        have hp : p ≤ 999 := by
          rcases hfr with ⟨_, rfl⟩ | ⟨d, _, _, h, _⟩
          · omega
          · exact h
        have htail : (if p = 0 then [] else 46 :: Lib.trimRightB ((Lib.decDigits (1000 + p)).drop 1) 48) = t.drop (lead t).length := by
          rcases hfr with ⟨hr, rfl⟩ | ⟨d, hr, hp1, _, hd⟩
          · rw [if_pos rfl, hr]
          · rw [if_neg (by omega), hd, hr]
        refine Or.inr (Or.inr ?_)
        cases neg with
        | false =>
          refine ⟨_, e, ?_, ?_, ?_⟩
          · simp only [Bool.false_eq_true, if_false]; omega
          · simp only [Bool.false_eq_true, if_false]; omega
          · simp only [Bool.false_eq_true, if_false, List.nil_append]
            rw [fmtL_eq _ (valL (lead t)) p (by omega) hp, if_neg (by omega), hdec, htail, List.nil_append]
            exact hsplit
        | true =>
          refine ⟨_, e, ?_, ?_, ?_⟩
          · simp only [if_true]; omega
          · simp only [if_true]; omega
          · simp only [if_true]
            have hpos : 0 < valL (lead t) * 1000 + p := by
              rcases Nat.eq_zero_or_pos (valL (lead t) * 1000 + p) with hz | hz
              · have hv : valL (lead t) = 0 := by omega
                have hp0 : p = 0 := by omega
                have hw := valL_zero_lead h0 h1 hv
                rcases hfr with ⟨hr, _⟩ | ⟨d, _, hp1, _, _⟩
                · rw [hr, List.append_nil, hw] at hsplit
                  exact absurd (Or.inr (Or.inr ⟨rfl, hsplit.symm⟩)) hb
                · omega
              · exact hz
            rw [fmtL_eq _ (valL (lead t)) p (by omega) hp, if_pos (by omega), hdec, htail, List.append_assoc, hsplit]

theorem parseV_ways (l : List UInt8) : parseV l = synV ∨ parseV l = ovfV ∨
    ∃ n : Int, parseV l = .tuple #[.int .i64 n, .int .i64 0] ∧ -268435456 ≤ n ∧ n ≤ 268435456 ∧ fmtL n = l := by
  unfold parseV
  by_cases h : l.head? = some 45
  · obtain ⟨t, rfl⟩ : ∃ t, l = 45 :: t := by
      cases l with
      | nil => cases h
      | cons a t => obtain rfl := Option.some.inj h; exact ⟨t, rfl⟩
    rw [if_pos h]
    simpa using parseT_ways true t
  · rw [if_neg h]
    simpa using parseT_ways false l
end Go.Proofs.Ytjeacpohanadnaa
namespace Go.Proofs.Ytjeacpohanadnaa.lex
open Go.RowKit

theorem lead_app (w f : List UInt8) (hw : w.all isDig = true) (hf : f = [] ∨ f.head? = some 46) : lead (w ++ f) = w := by
  have h := lead_take (w ++ f) w.length (by simp) (by rw [List.take_left']; exact hw; rfl) (fun c hc => by
    rw [List.getElem?_append_right (Nat.le_refl _), Nat.sub_self] at hc
    rcases hf with rfl | hf
    · cases hc
    · rw [← List.head?_eq_getElem?, hf] at hc
      rw [← Option.some.inj hc]; rfl)
  rw [h, List.take_left' rfl]

/-- What Parse answers to the text of n thousandths. -/
theorem fmt_parse (n : Int) : parseV (fmtL n) = if 268435456 < n.natAbs then ovfV else .tuple #[.int .i64 n, .int .i64 0] := by
  obtain ⟨V, hV⟩ : ∃ V, n.natAbs / 1000 = V := ⟨_, rfl⟩
  obtain ⟨p, hp⟩ : ∃ p, n.natAbs % 1000 = p := ⟨_, rfl⟩
  have hm : n.natAbs = V * 1000 + p := by omega
  have hp9 : p ≤ 999 := by omega
  rw [fmtL_eq n V p hm hp9]
  obtain ⟨f, hf⟩ : ∃ f, (if p = 0 then [] else 46 :: Lib.trimRightB ((Lib.decDigits (1000 + p)).drop 1) 48 : List UInt8) = f := ⟨_, rfl⟩
  rw [hf]
  have hs := dec_spec V
  have hfr : fracOf f = some p := by
    rw [← hf]
    split
    · rename_i h; rw [h]; rfl
    · rename_i h; exact frac_back p (by omega) hp9
  have hfh : f = [] ∨ f.head? = some 46 := by
    rw [← hf]
    split
    · exact Or.inl rfl
    · exact Or.inr rfl
  have hfn : f = [] → p = 0 := by
    intro h
    rw [h] at hfr
    exact (Option.some.inj hfr).symm
  obtain ⟨w, hw⟩ : ∃ w, Lib.decDigits V = w := ⟨_, rfl⟩
  rw [hw] at hs ⊢
  obtain ⟨h1, h2, h3, h4⟩ := hs
  have hL := lead_app w f h2 hfh
  have hD : (w ++ f).drop (lead (w ++ f)).length = f := by rw [hL]; exact List.drop_left' rfl
  have hhead : (w ++ f).head? = w.head? := by
    cases w with
    | nil => exact absurd rfl h3
    | cons a l => rfl
  have hdig : ∀ c, (w ++ f).head? = some c → isDig c = true := by
    intro c hc
    rw [hhead] at hc
    cases w with
    | nil => cases hc
    | cons a l =>
      rw [List.all_cons, Bool.and_eq_true] at h2
      rw [← Option.some.inj hc]
      exact h2.1
  have hgood : ∀ neg : Bool, (neg = true → n < 0) → ¬ ((lead (w ++ f)).length = 0 ∨ (1 < (lead (w ++ f)).length ∧ (w ++ f).head? = some 48) ∨ (neg = true ∧ w ++ f = [48])) := by
    rintro neg hn (h | h | h)
    · rw [hL] at h; exact h3 (List.length_eq_zero_iff.1 h)
    · rw [hL, hhead] at h; exact h4 h.1 h.2
    · have hneg := hn h.1
      have hwf := h.2
      cases w with
      | nil => exact h3 rfl
      | cons a l =>
        rw [List.cons_append, List.cons.injEq] at hwf
        have hlf := List.append_eq_nil_iff.1 hwf.2
        have hp0 := hfn hlf.2
        have hv0 : V = 0 := by rw [← h1, hwf.1, hlf.1]; rfl
        omega
  by_cases hn : n < 0
  · rw [if_pos hn, List.append_assoc]
    have e : parseV ([45] ++ (w ++ f)) = parseT true (w ++ f) := rfl
    rw [e, parseT_some (hgood true (fun _ => hn)) (by rw [hD]; exact hfr), hL, h1, ← hm]
    split
    · rfl
    · simp only [if_true]
      rw [show -((n.natAbs : Nat) : Int) = n by omega]
  · rw [if_neg hn, List.nil_append]
    have e : parseV (w ++ f) = parseT false (w ++ f) := by
      unfold parseV
      rw [if_neg]
      intro h
      have := hdig 45 h
      cases this
    rw [e, parseT_some (hgood false (fun h => by cases h)) (by rw [hD]; exact hfr), hL, h1, ← hm]
    split
    · rfl
    · simp only [Bool.false_eq_true, if_false]
      rw [show ((n.natAbs : Nat) : Int) = n by omega]

theorem fmtL_le (n : Int) (h0 : -9223372036854775808 ≤ n) (h1 : n ≤ 9223372036854775807) : (fmtL n).length ≤ 100 := by
  rw [fmtL_eq n (n.natAbs / 1000) (n.natAbs % 1000) (by omega) (by omega), List.length_append, List.length_append]
  have g1 := dec_len (n.natAbs / 1000) (by omega)
  have g2 := dec_len (1000 + n.natAbs % 1000) (by omega)
  have g3 : (if n < 0 then [45] else ([] : List UInt8)).length ≤ 1 := by split <;> simp
  have g4 : (if n.natAbs % 1000 = 0 then [] else 46 :: Lib.trimRightB ((Lib.decDigits (1000 + n.natAbs % 1000)).drop 1) 48 : List UInt8).length ≤ 21 := by
    split
    · simp
    · rw [List.length_cons]
      have := trim_le ((Lib.decDigits (1000 + n.natAbs % 1000)).drop 1) 48
      rw [List.length_drop] at this
      omega
  omega

/-- What Parse answers, as a pair. -/
def numAt : Option Value → Int
  | some (.int _ n) => n
  | _ => 0
def prL (l : List UInt8) : Int × Int := match parseV l with
  | .tuple vs => (numAt vs[0]?, numAt vs[1]?)
  | _ => (0, 4)
theorem prL_of {l : List UInt8} {n e : Int} (h : parseV l = .tuple #[.int .i64 n, .int .i64 e]) : prL l = (n, e) := by unfold prL; rw [h]; rfl
theorem parseV_pr (l : List UInt8) : parseV l = .tuple #[.int .i64 (prL l).1, .int .i64 (prL l).2] := by
  rcases parseV_ways l with h | h | ⟨n, h, _⟩
  · rw [prL_of (n := 0) (e := 4) h]; exact h
  · rw [prL_of (n := 0) (e := 16) h]; exact h
  · rw [prL_of h]; exact h
theorem prL_fmt (n : Int) (h0 : -268435456 ≤ n) (h1 : n ≤ 268435456) : prL (fmtL n) = (n, 0) :=
  prL_of (by rw [fmt_parse, if_neg (by omega)])
theorem prL_range (l : List UInt8) (h : (prL l).2 = 0) : -268435456 ≤ (prL l).1 ∧ (prL l).1 ≤ 268435456 := by
  rcases parseV_ways l with e | e | ⟨n, e, h1, h2, _⟩
  · rw [prL_of (n := 0) (e := 4) e] at h; cases h
  · rw [prL_of (n := 0) (e := 16) e] at h; cases h
  · rw [prL_of e]; exact ⟨h1, h2⟩
theorem dig_nb {l : List UInt8} (h : l.all isDig = true) : l.all isNb = true := by
  rw [List.all_eq_true] at h ⊢
  intro c hc
  have : isDgt c = true := h c hc
  simp [isNb, isWd, this]
theorem trim_dig {l : List UInt8} (h : l.all isDig = true) : (Lib.trimRightB l 48).all isDig = true := by
  rw [List.all_eq_true] at h ⊢
  intro c hc
  refine h c ?_
  have hs := (trim_split l).1
  rw [hs]
  exact List.mem_append_left _ hc
theorem fmt_form (n : Int) : numForm (fmtL n) := by
  obtain ⟨V, hV⟩ : ∃ V, n.natAbs / 1000 = V := ⟨_, rfl⟩
  obtain ⟨p, hp⟩ : ∃ p, n.natAbs % 1000 = p := ⟨_, rfl⟩
  rw [fmtL_eq n V p (by omega) (by omega)]
  obtain ⟨_, h2, h3, _⟩ := dec_spec V
  obtain ⟨_, d2, _, _⟩ := dec_spec (1000 + p)
  have ht : (if p = 0 then [] else 46 :: Lib.trimRightB ((Lib.decDigits (1000 + p)).drop 1) 48 : List UInt8).all isNb = true := by
    split
    · rfl
    · have hd : ((Lib.decDigits (1000 + p)).drop 1).all isDig = true := by
        rw [List.all_eq_true] at d2 ⊢
        exact fun c hc => d2 c (List.mem_of_mem_drop hc)
      rw [List.all_cons, dig_nb (trim_dig hd)]
      rfl
  generalize (if p = 0 then [] else 46 :: Lib.trimRightB ((Lib.decDigits (1000 + p)).drop 1) 48 : List UInt8) = f at ht ⊢
  cases hw : Lib.decDigits V with
  | nil => exact absurd hw h3
  | cons c t =>
    rw [hw, List.all_cons, Bool.and_eq_true] at h2
    refine ⟨c, t ++ f, h2.1, by rw [List.all_append, dig_nb h2.2, ht]; rfl, ?_⟩
    by_cases hn : n < 0
    · rw [if_pos hn]; exact Or.inr rfl
    · rw [if_neg hn]; exact Or.inl rfl
theorem fmt_ok : ∀ n, -268435456 ≤ n → n ≤ 268435456 → numForm (fmtL n) ∧ prL (fmtL n) = (n, 0) := fun n h0 h1 => ⟨fmt_form n, prL_fmt n h0 h1⟩
end Go.Proofs.Ytjeacpohanadnaa.lex
namespace Go.Proofs.Ytjeacpohanadnaa
open Go.RowKit lex

/-- The four cells of a token. -/
def cellsT (t : Tok) : List Value := [.int .i64 t.kind, .string ⟨t.text.toArray⟩, .int .i64 t.num, .int .i64 t.line]
def flatT (l : List Tok) : List Value := l.flatMap cellsT
def tokAt (l : List Tok) (i : Nat) : Tok := l.getD i ⟨0, [], 0, 0⟩
theorem flatT_snoc (l : List Tok) (t : Tok) : flatT (l ++ [t]) = flatT l ++ cellsT t := by
  unfold flatT; rw [List.flatMap_append]; simp
theorem flatT_length (l : List Tok) : (flatT l).length = l.length * 4 := by
  induction l with
  | nil => rfl
  | cons a t ih => unfold flatT at *; rw [List.flatMap_cons, List.length_append, ih]; simp [cellsT]; omega
theorem tokAt_succ (a : Tok) (t : List Tok) (i : Nat) : tokAt (a :: t) (i + 1) = tokAt t i := rfl
theorem flatT_get : ∀ (l : List Tok) (i : Nat), i < l.length → (flatT l)[i * 4]? = some (.int .i64 (tokAt l i).kind) ∧ (flatT l)[i * 4 + 1]? = some (.string ⟨(tokAt l i).text.toArray⟩) ∧ (flatT l)[i * 4 + 2]? = some (.int .i64 (tokAt l i).num) ∧ (flatT l)[i * 4 + 3]? = some (.int .i64 (tokAt l i).line)
  | [], i, h => absurd h (by simp)
  | a :: t, 0, _ => ⟨rfl, rfl, rfl, rfl⟩
  | a :: t, i + 1, h => by
    have ih := flatT_get t i (by simpa using h)
    have e : flatT (a :: t) = cellsT a ++ flatT t := by unfold flatT; rw [List.flatMap_cons]
    have hl : (cellsT a).length = 4 := rfl
    rw [e, List.getElem?_append_right (by omega), List.getElem?_append_right (by omega), List.getElem?_append_right (by omega), List.getElem?_append_right (by omega), tokAt_succ, hl]
    rw [show (i + 1) * 4 - 4 = i * 4 by omega, show (i + 1) * 4 + 1 - 4 = i * 4 + 1 by omega, show (i + 1) * 4 + 2 - 4 = i * 4 + 2 by omega, show (i + 1) * 4 + 3 - 4 = i * 4 + 3 by omega]
    exact ih
/-- The tokens of a slice in memory. -/
def Tl (w : World) (v : Value) (l : List Tok) : Prop := ∃ (ao : Option Addr) (cap : Nat), v = .slice ao l.length cap ∧ l.length ≤ cap ∧ (0 < l.length → ∃ A, ao = some A ∧ ∀ i, i < l.length →
  w.cell? (A.add (i * 4)) = some (.int .i64 (tokAt l i).kind) ∧ w.cell? ⟨(A.add (i * 4)).block, (A.add (i * 4)).off + 1, none⟩ = some (.string ⟨(tokAt l i).text.toArray⟩) ∧
  w.cell? ⟨(A.add (i * 4)).block, (A.add (i * 4)).off + 2, none⟩ = some (.int .i64 (tokAt l i).num) ∧ w.cell? ⟨(A.add (i * 4)).block, (A.add (i * 4)).off + 3, none⟩ = some (.int .i64 (tokAt l i).line))
theorem Tl.keep {w1 w2 : World} {v : Value} {l : List Tok} (h2 : Below w1.heap.size w1 w2) (h : Tl w1 v l) : Tl w2 v l := by
  obtain ⟨ao, cap, rfl, hc, hA⟩ := h
  refine ⟨ao, cap, rfl, hc, fun hn => ?_⟩
  obtain ⟨A, hA1, hA2⟩ := hA hn
  exact ⟨A, hA1, fun i hi => ⟨cell_later' h2 (hA2 i hi).1, cell_later' h2 (hA2 i hi).2.1, cell_later' h2 (hA2 i hi).2.2.1, cell_later' h2 (hA2 i hi).2.2.2⟩⟩
theorem Tl.nil (w : World) : Tl w (.slice none 0 0) [] := ⟨none, 0, rfl, Nat.le_refl _, fun h => absurd h (by simp)⟩
theorem own_tl {w : World} {B e : Nat} {v : Value} {l : List Tok} (h : w.ownsRow B e 4 v l.length (flatT l)) : Tl w v l := by
  have h0 := h
  rcases h.2 with ⟨rfl, hz⟩ | ⟨g, cap, cur, rfl, hg, hc, hcap, h3⟩
  · obtain rfl : l = [] := List.eq_nil_of_length_eq_zero hz
    exact Tl.nil w
  · refine ⟨some ⟨g, 0, none⟩, cap, rfl, hcap, fun _ => ⟨_, rfl, fun i hi => ?_⟩⟩
    obtain ⟨f0, f1, f2, f3⟩ := flatT_get l i hi
    have c := h0.cells (g := g) rfl
    have c0 := c _ _ f0
    have c1 := c _ _ f1
    have c2 := c _ _ f2
    have c3 := c _ _ f3
    rw [add_one_of _ _ (by omega)] at c1 c2 c3
    have eb : ((⟨g, 0, none⟩ : Addr).add (i * 4)).block = g := by unfold Addr.add; split <;> rfl
    have eo : ((⟨g, 0, none⟩ : Addr).add (i * 4)).off = i * 4 := by
      unfold Addr.add; split
      · simp; omega
      · simp
    rw [eb, eo]
    simp only [Nat.zero_add] at c1 c2 c3
    exact ⟨c0, c1, c2, c3⟩
/-- The four cells of a place of a slice. -/
theorem Tl.at' {w : World} {ao : Option Addr} {n cap : Nat} {l : List Tok} (h : Tl w (.slice ao n cap) l) {i : Nat} (hi : i < l.length) : ∃ A, ao = some A ∧ n = l.length ∧
    w.cell? (A.add (i * 4)) = some (.int .i64 (tokAt l i).kind) ∧ w.cell? ⟨(A.add (i * 4)).block, (A.add (i * 4)).off + 1, none⟩ = some (.string ⟨(tokAt l i).text.toArray⟩) ∧
    w.cell? ⟨(A.add (i * 4)).block, (A.add (i * 4)).off + 2, none⟩ = some (.int .i64 (tokAt l i).num) ∧ w.cell? ⟨(A.add (i * 4)).block, (A.add (i * 4)).off + 3, none⟩ = some (.int .i64 (tokAt l i).line) := by
  obtain ⟨ao', cap', e, hc, hA⟩ := h
  cases e
  obtain ⟨A, rfl, hA2⟩ := hA (by omega)
  exact ⟨A, rfl, rfl, hA2 i hi⟩
theorem tokAt_mem {l : List Tok} {i : Nat} (h : i < l.length) : tokAt l i ∈ l := by
  unfold tokAt; rw [List.getD_eq_getElem?_getD, List.getElem?_eq_getElem h]; exact List.getElem_mem h
theorem take_tok {l : List Tok} {i : Nat} (h : i < l.length) : l.take (i + 1) = l.take i ++ [tokAt l i] := by
  unfold tokAt; rw [List.take_add_one, List.getD_eq_getElem?_getD, List.getElem?_eq_getElem h]; rfl
/-- A slice literal of one token. -/
theorem Tl.lit (w : World) (k n l : Int) (x : ByteArray) (t : TypeId) (tx : List UInt8) (h : x.data.toList = tx) : Tl (w.alloc (.cells #[.int .i64 k, .string x, .int .i64 n, .int .i64 l] t)) (.slice (some ⟨w.heap.size, 0, none⟩) 1 1) [⟨k, tx, n, l⟩] := by
  have hx : x = ⟨tx.toArray⟩ := by subst h; cases x; simp
  refine ⟨some ⟨w.heap.size, 0, none⟩, 1, rfl, Nat.le_refl _, fun _ => ⟨_, rfl, fun i hi => ?_⟩⟩
  obtain rfl : i = 0 := by simp at hi; exact hi
  have eA : (⟨w.heap.size, 0, none⟩ : Addr).add (0 * 4) = ⟨w.heap.size, 0, none⟩ := by unfold Addr.add; rfl
  rw [eA, hx]
  refine ⟨?_, ?_, ?_, ?_⟩ <;> go_simp <;> rfl
/-- What Tokenize leaves: tokens, line, error. -/
def TokOut (L : List Tok) (ln e0 : Int) (w : World) (e : Ending) (w' : World) : Prop := ∃ v, e = .returned (.tuple #[v, .int .i64 ln, .int .i64 e0]) ∧ Tl w' v L ∧ Below w.heap.size w w'
end Go.Proofs.Ytjeacpohanadnaa
namespace Go.Proofs.Ytjeacpohanadnaa
open Go.RowKit lex

theorem ba_list (l : List UInt8) : (ba l).data.toList = l := by simp
theorem ba_size (l : List UInt8) : (ba l).size = l.length := by rw [← size_list, ba_list]
theorem beq_dec (n : Int) : (n == 0) = decide (n = 0) := by rw [Bool.eq_iff_iff]; simp
/-- Whether a token is valid. -/
def valB (t : Tok) : Bool :=
  if t.kind = 1 then isNm t.text && decide (t.num = 0)
  else if t.kind = 2 then isKw t.text && decide (t.num = 0)
  else if t.kind = 3 then t.text.isEmpty && decide (-268435456 ≤ t.num) && decide (t.num ≤ 268435456)
  else if t.kind = 4 then decide (t.text.length ≤ 32) && t.text.all isPl && decide (t.num = 0)
  else if t.kind = 5 then isMk t.text && decide (t.num = 0)
  else false
theorem valB_iff (t : Tok) : valB t = true ↔ valT t := by
  obtain ⟨kind, text, num, line⟩ := t
  unfold valB valT
  simp only
  by_cases k1 : kind = 1
  · subst k1; simp
  by_cases k2 : kind = 2
  · subst k2; simp
  by_cases k3 : kind = 3
  · subst k3; simp [and_assoc]
  by_cases k4 : kind = 4
  · subst k4; simp [and_assoc]
  by_cases k5 : kind = 5
  · subst k5; simp
  · simp [k1, k2, k3, k4, k5]


theorem valB_num {kind num line : Int} {text : List UInt8} (h : valB ⟨kind, text, num, line⟩ = true) (hk : kind = 3) : -268435456 ≤ num ∧ num ≤ 268435456 := by
  rw [valB_iff] at h
  unfold valT at h
  simp only at h
  omega
theorem valB_str {kind num line : Int} {text : List UInt8} (h : valB ⟨kind, text, num, line⟩ = true) (hk : kind = 4) : quoE text = (quoL text, 0) := by
  rw [valB_iff] at h
  unfold valT at h
  simp only at h
  unfold quoE
  rcases h with ⟨e, _⟩ | ⟨e, _⟩ | ⟨e, _⟩ | ⟨_, h1, h2, _⟩ | ⟨e, _⟩ <;> first | omega | rw [if_neg (by omega), if_pos h2]


theorem take_ne {l : List Tok} {j : Nat} (h : 0 < j) (hl : 0 < l.length) : ¬ (l.take j).isEmpty = true := by
  have h5 : 0 < (l.take j).length := by rw [List.length_take]; omega
  cases e : l.take j with
  | nil => rw [e] at h5; simp at h5
  | cons a r => simp
/-- What Join answers: the text, the error. -/
def joinE (l : List Tok) : List UInt8 × Int := if l.all valB = false then ([], 1) else if 16384 < (joinL fmtL l).length then ([], 2) else (joinL fmtL l, 0)
theorem wrt_len (t : Tok) (h : t.text.length ≤ 200) (hv : valB t = true) : (wrt fmtL t).length ≤ 500 := by
  obtain ⟨kind, text, num, line⟩ := t
  unfold wrt
  simp only at h ⊢
  by_cases k3 : kind = 3
  · rw [if_pos k3]
    have := valB_num hv k3
    have := fmtL_le num (by omega) (by omega)
    omega
  · rw [if_neg k3]
    split
    · unfold quoL
      have := esc_len text
      simp only [List.length_cons, List.length_append, List.length_nil]
      omega
    · omega
theorem all_take {l : List Tok} {k : Nat} (hk : k < l.length) (h : (l.take k).all valB = true) (hv : valB (tokAt l k) = true) : (l.take (k + 1)).all valB = true := by
  rw [take_tok hk, List.all_append, h]; simp [hv]
theorem all_no {l : List Tok} {k : Nat} (hk : k < l.length) (hv : valB (tokAt l k) = false) : l.all valB = false := by
  rw [List.all_eq_false]; exact ⟨tokAt l k, tokAt_mem hk, by simp [hv]⟩
theorem all_at {l : List Tok} {k : Nat} (hk : k < l.length) (h : l.all valB = true) : valB (tokAt l k) = true := List.all_eq_true.1 h _ (tokAt_mem hk)


end Go.Proofs.Ytjeacpohanadnaa
namespace Go.Proofs.Ytjeacpohanadnaa
open Go.RowKit lex

/-- What Tokenize answers: tokens, line, error. -/
def tokE (l : List UInt8) : List Tok × Int × Int := if 16384 < l.length then ([], 0, 2) else tkz prL l 1 false
theorem tokE_small {l : List UInt8} (h : l.length ≤ 16384) : tokE l = tkz prL l 1 false := by unfold tokE; rw [if_neg (by omega)]
/-- The chapter's second example. -/
def exL : List Tok := [⟨1, [120], 0, 1⟩, ⟨5, [61], 0, 1⟩, ⟨3, [], -1500, 1⟩, ⟨5, [59], 0, 1⟩]
theorem ex_tok : tokE [120, 61, 45, 49, 46, 53, 59] = (exL, 0, 0) := by
  rw [tokE_small (by decide)]
  have o1 : oneL prL [120, 61, 45, 49, 46, 53, 59] = (⟨1, [120], 0, 0⟩, 1, 0) := by kernel_rfl
  have o2 : oneL prL [61, 45, 49, 46, 53, 59] = (⟨5, [61], 0, 0⟩, 1, 0) := by kernel_rfl
  have o3 : oneL prL [45, 49, 46, 53, 59] = (⟨3, [], -1500, 0⟩, 4, 0) := by kernel_rfl
  have o4 : oneL prL [59] = (⟨5, [59], 0, 0⟩, 1, 0) := by kernel_rfl
  rw [tkz_tok _ _ _ _ (by decide) (by decide) (by rw [o1]), o1]
  show comb _ (tkz prL [61, 45, 49, 46, 53, 59] 1 false) = _
  rw [tkz_tok _ _ _ _ (by decide) (by decide) (by rw [o2]), o2]
  show comb _ (comb _ (tkz prL [45, 49, 46, 53, 59] 1 false)) = _
  rw [tkz_tok _ _ _ _ (by decide) (by decide) (by rw [o3]), o3]
  show comb _ (comb _ (comb _ (tkz prL [59] 1 false))) = _
  rw [tkz_tok _ _ _ _ (by decide) (by decide) (by rw [o4]), o4]
  show comb _ (comb _ (comb _ (comb _ (tkz prL [] 1 false)))) = _
  rw [tkz_nil]
  rfl
theorem ex_name : isNm [110, 111, 100, 101, 95, 49] = true := by decide +kernel
theorem ex_node : isNm [110, 111, 100, 101] = false := by decide +kernel
end Go.Proofs.Ytjeacpohanadnaa
