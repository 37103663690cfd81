/-
  Slices of tokens of layer 6 in memory: as a row that a loop appends to, and as they are read. No condition.
  Valid tokens, how they are written and joined: plain facts. No function of the program is named here; no condition.
  What the exported functions of layer 6 answer, as plain functions, and what the chapter's example comes to. No function of the program is named here; no condition.
-/
import Derived.Test.YtmpjdlhigmofdaaKit
import Derived.Test.YtmpjdlhigmofdaaLexPlain
import Derived.Test.YtmpjdlhigmofdaaRefLex2
import Derived.Test.YtmpjdlhigmofdaaLexNum
namespace Go.Proofs.Ytmpjdlhigmofdaa
open Go.RowKit lex

/-- The four cells of a token. -/
def cellsT (t : Tok) : List Value := [.int .i64 t.kind, .string ⟨t.text.toArray⟩, .int .i64 t.num, .int .i64 t.line]
def flatT (l : List Tok) : List Value := l.flatMap cellsT
def tokAt (l : List Tok) (i : Nat) : Tok := l.getD i ⟨0, [], 0, 0⟩
theorem flatT_snoc (l : List Tok) (t : Tok) : flatT (l ++ [t]) = flatT l ++ cellsT t := by
  unfold flatT; rw [List.flatMap_append]; simp
theorem flatT_length (l : List Tok) : (flatT l).length = l.length * 4 := by
  induction l with
  | nil => rfl
  | cons a t ih => unfold flatT at *; rw [List.flatMap_cons, List.length_append, ih]; simp [cellsT]; omega
theorem tokAt_succ (a : Tok) (t : List Tok) (i : Nat) : tokAt (a :: t) (i + 1) = tokAt t i := rfl
theorem flatT_get : ∀ (l : List Tok) (i : Nat), i < l.length → (flatT l)[i * 4]? = some (.int .i64 (tokAt l i).kind) ∧ (flatT l)[i * 4 + 1]? = some (.string ⟨(tokAt l i).text.toArray⟩) ∧ (flatT l)[i * 4 + 2]? = some (.int .i64 (tokAt l i).num) ∧ (flatT l)[i * 4 + 3]? = some (.int .i64 (tokAt l i).line)
  | [], i, h => absurd h (by simp)
  | a :: t, 0, _ => ⟨rfl, rfl, rfl, rfl⟩
  | a :: t, i + 1, h => by
    have ih := flatT_get t i (by simpa using h)
    have e : flatT (a :: t) = cellsT a ++ flatT t := by unfold flatT; rw [List.flatMap_cons]
    have hl : (cellsT a).length = 4 := rfl
    rw [e, List.getElem?_append_right (by omega), List.getElem?_append_right (by omega), List.getElem?_append_right (by omega), List.getElem?_append_right (by omega), tokAt_succ, hl]
    rw [show (i + 1) * 4 - 4 = i * 4 by omega, show (i + 1) * 4 + 1 - 4 = i * 4 + 1 by omega, show (i + 1) * 4 + 2 - 4 = i * 4 + 2 by omega, show (i + 1) * 4 + 3 - 4 = i * 4 + 3 by omega]
    exact ih
/-- The tokens of a slice in memory. -/
def Tl (w : World) (v : Value) (l : List Tok) : Prop := ∃ (ao : Option Addr) (cap : Nat), v = .slice ao l.length cap ∧ l.length ≤ cap ∧ (0 < l.length → ∃ A, ao = some A ∧ ∀ i, i < l.length →
  w.cell? (A.add (i * 4)) = some (.int .i64 (tokAt l i).kind) ∧ w.cell? ⟨(A.add (i * 4)).block, (A.add (i * 4)).off + 1, none⟩ = some (.string ⟨(tokAt l i).text.toArray⟩) ∧
  w.cell? ⟨(A.add (i * 4)).block, (A.add (i * 4)).off + 2, none⟩ = some (.int .i64 (tokAt l i).num) ∧ w.cell? ⟨(A.add (i * 4)).block, (A.add (i * 4)).off + 3, none⟩ = some (.int .i64 (tokAt l i).line))
theorem Tl.keep {w1 w2 : World} {v : Value} {l : List Tok} (h2 : Below w1.heap.size w1 w2) (h : Tl w1 v l) : Tl w2 v l := by
  obtain ⟨ao, cap, rfl, hc, hA⟩ := h
  refine ⟨ao, cap, rfl, hc, fun hn => ?_⟩
  obtain ⟨A, hA1, hA2⟩ := hA hn
  exact ⟨A, hA1, fun i hi => ⟨cell_later' h2 (hA2 i hi).1, cell_later' h2 (hA2 i hi).2.1, cell_later' h2 (hA2 i hi).2.2.1, cell_later' h2 (hA2 i hi).2.2.2⟩⟩
theorem Tl.nil (w : World) : Tl w (.slice none 0 0) [] := ⟨none, 0, rfl, Nat.le_refl _, fun h => absurd h (by simp)⟩
theorem info_tok : (Try.prog.info? 68).map (fun i => (i.zero, i.size, i.bytes)) = some (some (.agg #[.int .i64 0, .string ⟨#[]⟩, .int .i64 0, .int .i64 0]), 4, 40) := by kernel_rfl
theorem info_tok4 : ∃ i, Try.prog.info? 68 = some i ∧ i.zero = some (.agg #[.int .i64 0, .string ⟨#[]⟩, .int .i64 0, .int .i64 0]) ∧ i.size = 4 ∧ i.bytes = 40 := by
  have h := info_tok
  cases hq : Try.prog.info? 68 with
  | none => rw [hq] at h; cases h
  | some i =>
    rw [hq] at h
    simp only [Option.map_some, Option.some.injEq, Prod.mk.injEq] at h
    exact ⟨i, rfl, h.1, h.2.1, h.2.2⟩
theorem own_tl {w : World} {B e : Nat} {v : Value} {l : List Tok} (h : w.ownsRow B e 4 v l.length (flatT l)) : Tl w v l := by
  have h0 := h
  rcases h.2 with ⟨rfl, hz⟩ | ⟨g, cap, cur, rfl, hg, hc, hcap, h3⟩
  · obtain rfl : l = [] := List.eq_nil_of_length_eq_zero hz
    exact Tl.nil w
  · refine ⟨some ⟨g, 0, none⟩, cap, rfl, hcap, fun _ => ⟨_, rfl, fun i hi => ?_⟩⟩
    obtain ⟨f0, f1, f2, f3⟩ := flatT_get l i hi
    have c := h0.cells (g := g) rfl
    have c0 := c _ _ f0
    have c1 := c _ _ f1
    have c2 := c _ _ f2
    have c3 := c _ _ f3
    rw [add_one_of _ _ (by omega)] at c1 c2 c3
    have eb : ((⟨g, 0, none⟩ : Addr).add (i * 4)).block = g := by unfold Addr.add; split <;> rfl
    have eo : ((⟨g, 0, none⟩ : Addr).add (i * 4)).off = i * 4 := by
      unfold Addr.add; split
      · simp; omega
      · simp
    rw [eb, eo]
    simp only [Nat.zero_add] at c1 c2 c3
    exact ⟨c0, c1, c2, c3⟩
/-- The four cells of a place of a slice. -/
theorem Tl.at' {w : World} {ao : Option Addr} {n cap : Nat} {l : List Tok} (h : Tl w (.slice ao n cap) l) {i : Nat} (hi : i < l.length) : ∃ A, ao = some A ∧ n = l.length ∧
    w.cell? (A.add (i * 4)) = some (.int .i64 (tokAt l i).kind) ∧ w.cell? ⟨(A.add (i * 4)).block, (A.add (i * 4)).off + 1, none⟩ = some (.string ⟨(tokAt l i).text.toArray⟩) ∧
    w.cell? ⟨(A.add (i * 4)).block, (A.add (i * 4)).off + 2, none⟩ = some (.int .i64 (tokAt l i).num) ∧ w.cell? ⟨(A.add (i * 4)).block, (A.add (i * 4)).off + 3, none⟩ = some (.int .i64 (tokAt l i).line) := by
  obtain ⟨ao', cap', e, hc, hA⟩ := h
  cases e
  obtain ⟨A, rfl, hA2⟩ := hA (by omega)
  exact ⟨A, rfl, rfl, hA2 i hi⟩
theorem tokAt_mem {l : List Tok} {i : Nat} (h : i < l.length) : tokAt l i ∈ l := by
  unfold tokAt; rw [List.getD_eq_getElem?_getD, List.getElem?_eq_getElem h]; exact List.getElem_mem h
theorem take_tok {l : List Tok} {i : Nat} (h : i < l.length) : l.take (i + 1) = l.take i ++ [tokAt l i] := by
  unfold tokAt; rw [List.take_add_one, List.getD_eq_getElem?_getD, List.getElem?_eq_getElem h]; rfl
/-- A slice literal of one token. -/
theorem Tl.lit (w : World) (k n l : Int) (x : ByteArray) (t : TypeId) (tx : List UInt8) (h : x.data.toList = tx) : Tl (w.alloc (.cells #[.int .i64 k, .string x, .int .i64 n, .int .i64 l] t)) (.slice (some ⟨w.heap.size, 0, none⟩) 1 1) [⟨k, tx, n, l⟩] := by
  have hx : x = ⟨tx.toArray⟩ := by subst h; cases x; simp
  refine ⟨some ⟨w.heap.size, 0, none⟩, 1, rfl, Nat.le_refl _, fun _ => ⟨_, rfl, fun i hi => ?_⟩⟩
  obtain rfl : i = 0 := by simp at hi; exact hi
  have eA : (⟨w.heap.size, 0, none⟩ : Addr).add (0 * 4) = ⟨w.heap.size, 0, none⟩ := by unfold Addr.add; rfl
  rw [eA, hx]
  refine ⟨?_, ?_, ?_, ?_⟩ <;> go_simp <;> rfl
/-- What Tokenize leaves: tokens, line, error. -/
def TokOut (L : List Tok) (ln e0 : Int) (w : World) (e : Ending) (w' : World) : Prop := ∃ v, e = .returned (.tuple #[v, .int .i64 ln, .int .i64 e0]) ∧ Tl w' v L ∧ Below w.heap.size w w'
end Go.Proofs.Ytmpjdlhigmofdaa
namespace Go.Proofs.Ytmpjdlhigmofdaa
open Go.RowKit lex

theorem ba_list (l : List UInt8) : (ba l).data.toList = l := by simp
theorem ba_size (l : List UInt8) : (ba l).size = l.length := by rw [← size_list, ba_list]
theorem beq_dec (n : Int) : (n == 0) = decide (n = 0) := by rw [Bool.eq_iff_iff]; simp
/-- Whether a token is valid. -/
def valB (t : Tok) : Bool :=
  if t.kind = 1 then isNm t.text && decide (t.num = 0)
  else if t.kind = 2 then isKw t.text && decide (t.num = 0)
  else if t.kind = 3 then t.text.isEmpty && decide (-268435456 ≤ t.num) && decide (t.num ≤ 268435456)
  else if t.kind = 4 then decide (t.text.length ≤ 32) && t.text.all isPl && decide (t.num = 0)
  else if t.kind = 5 then isMk t.text && decide (t.num = 0)
  else false
theorem valB_iff (t : Tok) : valB t = true ↔ valT t := by
  obtain ⟨kind, text, num, line⟩ := t
  unfold valB valT
  simp only
  by_cases k1 : kind = 1
  · subst k1; simp
  by_cases k2 : kind = 2
  · subst k2; simp
  by_cases k3 : kind = 3
  · subst k3; simp [and_assoc]
  by_cases k4 : kind = 4
  · subst k4; simp [and_assoc]
  by_cases k5 : kind = 5
  · subst k5; simp
  · simp [k1, k2, k3, k4, k5]


theorem valB_num {kind num line : Int} {text : List UInt8} (h : valB ⟨kind, text, num, line⟩ = true) (hk : kind = 3) : -268435456 ≤ num ∧ num ≤ 268435456 := by
  rw [valB_iff] at h
  unfold valT at h
  simp only at h
  omega
theorem valB_str {kind num line : Int} {text : List UInt8} (h : valB ⟨kind, text, num, line⟩ = true) (hk : kind = 4) : quoE text = (quoL text, 0) := by
  rw [valB_iff] at h
  unfold valT at h
  simp only at h
  unfold quoE
  rcases h with ⟨e, _⟩ | ⟨e, _⟩ | ⟨e, _⟩ | ⟨_, h1, h2, _⟩ | ⟨e, _⟩ <;> first | omega | rw [if_neg (by omega), if_pos h2]


theorem take_ne {l : List Tok} {j : Nat} (h : 0 < j) (hl : 0 < l.length) : ¬ (l.take j).isEmpty = true := by
  have h5 : 0 < (l.take j).length := by rw [List.length_take]; omega
  cases e : l.take j with
  | nil => rw [e] at h5; simp at h5
  | cons a r => simp
/-- What Join answers: the text, the error. -/
def joinE (l : List Tok) : List UInt8 × Int := if l.all valB = false then ([], 1) else if 16384 < (joinL fmtL l).length then ([], 2) else (joinL fmtL l, 0)
theorem wrt_len (t : Tok) (h : t.text.length ≤ 200) (hv : valB t = true) : (wrt fmtL t).length ≤ 500 := by
  obtain ⟨kind, text, num, line⟩ := t
  unfold wrt
  simp only at h ⊢
  by_cases k3 : kind = 3
  · rw [if_pos k3]
    have := valB_num hv k3
    have := fmtL_le num (by omega) (by omega)
    omega
  · rw [if_neg k3]
    split
    · unfold quoL
      have := esc_len text
      simp only [List.length_cons, List.length_append, List.length_nil]
      omega
    · omega
theorem all_take {l : List Tok} {k : Nat} (hk : k < l.length) (h : (l.take k).all valB = true) (hv : valB (tokAt l k) = true) : (l.take (k + 1)).all valB = true := by
  rw [take_tok hk, List.all_append, h]; simp [hv]
theorem all_no {l : List Tok} {k : Nat} (hk : k < l.length) (hv : valB (tokAt l k) = false) : l.all valB = false := by
  rw [List.all_eq_false]; exact ⟨tokAt l k, tokAt_mem hk, by simp [hv]⟩
theorem all_at {l : List Tok} {k : Nat} (hk : k < l.length) (h : l.all valB = true) : valB (tokAt l k) = true := List.all_eq_true.1 h _ (tokAt_mem hk)


end Go.Proofs.Ytmpjdlhigmofdaa
namespace Go.Proofs.Ytmpjdlhigmofdaa
open Go.RowKit lex

/-- What Tokenize answers: tokens, line, error. -/
def tokE (l : List UInt8) : List Tok × Int × Int := if 16384 < l.length then ([], 0, 2) else tkz prL l 1 false
theorem tokE_small {l : List UInt8} (h : l.length ≤ 16384) : tokE l = tkz prL l 1 false := by unfold tokE; rw [if_neg (by omega)]
/-- The chapter's second example. -/
def exL : List Tok := [⟨1, [120], 0, 1⟩, ⟨5, [61], 0, 1⟩, ⟨3, [], -1500, 1⟩, ⟨5, [59], 0, 1⟩]
theorem ex_tok : tokE [120, 61, 45, 49, 46, 53, 59] = (exL, 0, 0) := by
  rw [tokE_small (by decide)]
  have o1 : oneL prL [120, 61, 45, 49, 46, 53, 59] = (⟨1, [120], 0, 0⟩, 1, 0) := by kernel_rfl
  have o2 : oneL prL [61, 45, 49, 46, 53, 59] = (⟨5, [61], 0, 0⟩, 1, 0) := by kernel_rfl
  have o3 : oneL prL [45, 49, 46, 53, 59] = (⟨3, [], -1500, 0⟩, 4, 0) := by kernel_rfl
  have o4 : oneL prL [59] = (⟨5, [59], 0, 0⟩, 1, 0) := by kernel_rfl
  rw [tkz_tok _ _ _ _ (by decide) (by decide) (by rw [o1]), o1]
  show comb _ (tkz prL [61, 45, 49, 46, 53, 59] 1 false) = _
  rw [tkz_tok _ _ _ _ (by decide) (by decide) (by rw [o2]), o2]
  show comb _ (comb _ (tkz prL [45, 49, 46, 53, 59] 1 false)) = _
  rw [tkz_tok _ _ _ _ (by decide) (by decide) (by rw [o3]), o3]
  show comb _ (comb _ (comb _ (tkz prL [59] 1 false))) = _
  rw [tkz_tok _ _ _ _ (by decide) (by decide) (by rw [o4]), o4]
  show comb _ (comb _ (comb _ (comb _ (tkz prL [] 1 false)))) = _
  rw [tkz_nil]
  rfl
theorem ex_name : isNm [110, 111, 100, 101, 95, 49] = true := by decide +kernel
theorem ex_node : isNm [110, 111, 100, 101] = false := by decide +kernel
end Go.Proofs.Ytmpjdlhigmofdaa
