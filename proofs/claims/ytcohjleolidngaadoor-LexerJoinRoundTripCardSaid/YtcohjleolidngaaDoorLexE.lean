/-
  What wordToken and numberToken of the lexer return. Condition: a text's length.
-/
import Derived.Test.YtcohjleolidngaaDoorLexD
namespace Go.Proofs.YtcohjleolidngaaDoor
open Go.RowKit lex

abbrev tkV (t : Tok) : Value := .agg #[.int .i64 t.kind, .string (ba t.text), .int .i64 t.num, .int .i64 t.line]
theorem tk_back (k n l : Int) (s : ByteArray) : tkV ⟨k, s.data.toList, n, l⟩ = .agg #[.int .i64 k, .string s, .int .i64 n, .int .i64 l] := by
  show Value.agg #[_, .string (ba s.data.toList), _, _] = _
  rw [← ba_of (rfl : s.data.toList = s.data.toList)]
abbrev zeroT : Tok := ⟨0, [], 0, 0⟩
/-- A token in memory that may be written. -/
def owT (W : World) (b : Nat) (k : Int) (x : ByteArray) (n l : Int) : Prop := W.cell? ⟨b, 0, none⟩ = some (.int .i64 k) ∧ W.cell? ⟨b, 1, none⟩ = some (.string x) ∧ W.cell? ⟨b, 2, none⟩ = some (.int .i64 n) ∧ W.cell? ⟨b, 3, none⟩ = some (.int .i64 l) ∧
  W.frozen? ⟨b, 0, none⟩ = false ∧ W.frozen? ⟨b, 1, none⟩ = false ∧ W.frozen? ⟨b, 2, none⟩ = false ∧ W.frozen? ⟨b, 3, none⟩ = false
theorem owT_new (w : World) (k : Int) (x : ByteArray) (n l : Int) (t : TypeId) : owT (w.alloc (.cells #[.int .i64 k, .string x, .int .i64 n, .int .i64 l] t)) w.heap.size k x n l := by
  refine ⟨?_, ?_, ?_, ?_, ?_, ?_, ?_, ?_⟩ <;> go_simp
theorem owT.keep {w1 w2 : World} {b : Nat} {k : Int} {x : ByteArray} {n l : Int} (h : owT w1 b k x n l) (h2 : Below w1.heap.size w1 w2) : owT w2 b k x n l := by
  obtain ⟨a, b, c, d, e, f, g, i⟩ := h
  exact ⟨cell_keep h2 a, cell_keep h2 b, cell_keep h2 c, cell_keep h2 d, fr_keep h2 a e, fr_keep h2 b f, fr_keep h2 c g, fr_keep h2 d i⟩
/-- What a token's writer returns: the token, its length, the error. -/
def TkOut (t : Tok) (n : Nat) (e0 : Int) (w : World) (e : Ending) (w' : World) : Prop := e = .returned (.tuple #[tkV t, .int .i64 (n : Int), .int .i64 e0]) ∧ Below w.heap.size w w'
def wrdC (l : List UInt8) : Tok × Nat × Int := if isKw l then (⟨2, l, 0, 0⟩, l.length, 0) else if isNm l then (⟨1, l, 0, 0⟩, l.length, 0) else (zeroT, 0, 2)
def numC (l : List UInt8) : Tok × Nat × Int := if (prL l).2 = 0 then (⟨3, [], (prL l).1, 0⟩, l.length, 0) else (zeroT, 0, (prL l).2)
set_option maxHeartbeats 1000000 in
theorem wordToken_of (s : ByteArray) (t : Tok) (n : Nat) (e0 : Int) (w : World) (hs : s.size ≤ maxLen) (h : Hid (wrdC s.data.toList = (t, n, e0))) :
    Calls Tryd.prog 29 #[.string s] w (TkOut t n e0 w) := by
  have hr := h.out
  unfold wrdC at hr
  rw [size_list] at hr
  clear h
  obtain ⟨k, hk⟩ : ∃ v : Bool, isKw s.data.toList = v := ⟨_, rfl⟩
  obtain ⟨m, hm⟩ : ∃ v : Bool, isNm s.data.toList = v := ⟨_, rfl⟩
  rw [hk, hm] at hr
  have HK := Lib.hid hk
  have HM := Lib.hid hm
  clear hk hm
  have hR := owT_new w 0 ⟨#[]⟩ 0 0 31
  cases k
  · rw [if_neg (by decide)] at hr
    cases m
    · rw [if_neg (by decide)] at hr
      simp only [Prod.mk.injEq] at hr
      obtain ⟨rfl, rfl, rfl⟩ := hr
      go_enter Tryd.func29, Tryd.ntmps29
      go_wp2_with fail
      refine (iskw_of _ _ _ HK).mono ?_
      rintro e w' ⟨rfl, rfl⟩
      go_wp2_with fail
      refine (isname_of _ _ _ hs HM).mono ?_
      rintro e w1 ⟨rfl, hb1⟩
      obtain ⟨c0, c1, c2, c3, f0, f1, f2, f3⟩ := hR.keep hb1
      have hB := below_keep hb1 (al1 ..)
      clear hb1
      go_wp2
      exact bodyPost_ret (v := .tuple #[tkV zeroT, .int .i64 0, .int .i64 2]) (by simp [results, Tryd.results29, go_sem, c0, c1, c2, c3]) rfl ⟨rfl, set4 hB (by omega)⟩
    · rw [if_pos rfl] at hr
      simp only [Prod.mk.injEq] at hr
      obtain ⟨rfl, rfl, rfl⟩ := hr
      go_enter Tryd.func29, Tryd.ntmps29
      go_wp2_with fail
      refine (iskw_of _ _ _ HK).mono ?_
      rintro e w' ⟨rfl, rfl⟩
      go_wp2_with fail
      refine (isname_of _ _ _ hs HM).mono ?_
      rintro e w1 ⟨rfl, hb1⟩
      obtain ⟨c0, c1, c2, c3, f0, f1, f2, f3⟩ := hR.keep hb1
      have hB := below_keep hb1 (al1 ..)
      clear hb1
      go_wp2
      exact bodyPost_ret (v := .tuple #[.agg #[.int .i64 1, .string s, .int .i64 0, .int .i64 0], .int .i64 s.size, .int .i64 0]) (by simp [results, Tryd.results29, go_sem, c0, c1, c2, c3]) rfl ⟨by rw [tk_back], set4 hB (by omega)⟩
  · rw [if_pos rfl] at hr
    simp only [Prod.mk.injEq] at hr
    obtain ⟨rfl, rfl, rfl⟩ := hr
    go_enter Tryd.func29, Tryd.ntmps29
    go_wp2_with fail
    refine (iskw_of _ _ _ HK).mono ?_
    rintro e w' ⟨rfl, rfl⟩
    go_wp2
    exact bodyPost_ret (v := .tuple #[.agg #[.int .i64 2, .string s, .int .i64 0, .int .i64 0], .int .i64 s.size, .int .i64 0]) (by simp [results, Tryd.results29, go_sem]) rfl ⟨by rw [tk_back], al1 ..⟩
theorem codeParse_of (s : ByteArray) (n e0 : Int) (w : World) (hs : s.size ≤ 20000) (h : Hid (prL s.data.toList = (n, e0))) :
    Calls Tryd.prog 47 #[.string s] w fun e w' => e = .returned (.tuple #[.int .i64 n, .int .i64 e0]) ∧ w = w' := by
  have c := parse_any s w (by omega)
  rw [parseV_pr, h.out] at c
  exact c
set_option maxHeartbeats 1000000 in
theorem numberToken_of (s : ByteArray) (t : Tok) (n : Nat) (e0 : Int) (w : World) (hs : s.size ≤ 20000) (h : Hid (numC s.data.toList = (t, n, e0))) :
    Calls Tryd.prog 31 #[.string s] w (TkOut t n e0 w) := by
  have hr := h.out
  unfold numC at hr
  rw [size_list] at hr
  clear h
  have HP : Hid (prL s.data.toList = ((prL s.data.toList).1, (prL s.data.toList).2)) := Lib.hid rfl
  generalize (prL s.data.toList).1 = a at hr HP
  generalize (prL s.data.toList).2 = b at hr HP
  by_cases hb : b = 0
  · rw [if_pos hb] at hr
    simp only [Prod.mk.injEq] at hr
    obtain ⟨rfl, rfl, rfl⟩ := hr
    subst hb
    go_enter Tryd.func31, Tryd.ntmps31
    go_wp2_with (go_at_call 47; refine (codeParse_of _ _ _ _ hs HP).mono ?_; rintro e w' ⟨rfl, rfl⟩)
    exact bodyPost_ret (v := .tuple #[.agg #[.int .i64 3, .string ⟨#[]⟩, .int .i64 a, .int .i64 0], .int .i64 s.size, .int .i64 0]) (by simp [results, Tryd.results31, go_sem]) rfl ⟨rfl, al1 ..⟩
  · rw [if_neg hb] at hr
    simp only [Prod.mk.injEq] at hr
    obtain ⟨rfl, rfl, rfl⟩ := hr
    have hb1 : (b != 0) = true := by simp [hb]
    clear hb
    go_enter Tryd.func31, Tryd.ntmps31
    go_wp2_with (go_at_call 47; refine (codeParse_of _ _ _ _ hs HP).mono ?_; rintro e w' ⟨rfl, rfl⟩)
    exact bodyPost_ret (v := .tuple #[tkV zeroT, .int .i64 0, .int .i64 b]) (by simp [results, Tryd.results31, go_sem]) rfl ⟨rfl, al1 ..⟩
end Go.Proofs.YtcohjleolidngaaDoor
