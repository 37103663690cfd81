/-
  What statement, cluster and block of the landed printer's writer write. Conditions: statements as a valid tree has them; texts of at most a million bytes.
  What statement, cluster and block of the landed printer's writer write, for all statements of a valid tree. Conditions: texts of at most a million bytes.
  What block of the landed printer's writer writes, for all statements of a valid tree. Conditions: texts of at most a million bytes.
-/
import Derived.Test.YtmpjdlhigmofdaaMPc
import Derived.Test.YtmpjdlhigmofdaaPrtStm
import Derived.Laws.EntriesVeiled
namespace Go.Proofs.Ytmpjdlhigmofdaa.prt
open Go.RowKit Go.Sort lex tre

/-- The lines of a block. -/
def blkT (d : Bool) (lev : Nat) (kw X : ByteArray) (l : List St) : List UInt8 :=
  List.replicate (4 * lev) 32 ++ (kw.data.toList ++ 32 :: (X.data.toList ++ 32 :: 123 :: 10 :: (stL prL d (4 * (lev + 1)) l ++ (List.replicate (4 * lev) 32 ++ [125, 10]))))
def CBl (l : List St) : Prop := ∀ (w0 w : World) (b : Nat) (acc : List UInt8) (lev : Nat) (d : Bool) (kw X : ByteArray) (v : Value), Hid (Below w0.heap.size w0 w) → w0.heap.size ≤ b → Hid (Wr w b acc lev (arrB d)) → Hid (Sts w0 v l) → Hid (vL l) → Hid (okL l) → X.size ≤ 16 → kw.size ≤ 16 →
  acc.length + (blkT d lev kw X l).length + 10000 ≤ 1000000 → Calls Try.prog 22 #[.pointer (some ⟨b, 0, none⟩), .string kw, .string X, v] w fun e w' => e = .returned (.tuple #[]) ∧ Wr w' b (acc ++ blkT d lev kw X l) lev (arrB d) ∧ Fr b w w'
def CSt (s : St) : Prop := ∀ (w0 w : World) (b : Nat) (acc : List UInt8) (lev : Nat) (d : Bool) (rv av bv : Value), Hid (Below w0.heap.size w0 w) → w0.heap.size ≤ b → Hid (Wr w b acc lev (arrB d)) → Hid (fvOk w0 ⟨s, 0, rv, av, bv⟩) → Hid (vS s) → Hid ((s.refs.length ≤ 40 ∧ s.attrs.length ≤ 40) ∧ okL s.body) →
  acc.length + (stS prL d (4 * lev) s).length + 10000 ≤ 1000000 → Calls Try.prog 40 #[.pointer (some ⟨b, 0, none⟩), stV s rv av bv] w fun e w' => e = .returned (.tuple #[]) ∧ Wr w' b (acc ++ stS prL d (4 * lev) s) lev (arrB d) ∧ Fr b w w'
/-- The cells that statement reads, from world to world. -/
theorem s6_drew {w : World} {k j i : Nat} {a c d e f g : Value} (h : w.cell? ⟨k, 0, none⟩ = some a ∧ w.cell? ⟨k, 1, none⟩ = some c ∧ w.cell? ⟨k, 2, none⟩ = some d ∧ w.cell? ⟨k, 3, none⟩ = some e ∧ w.cell? ⟨k, 4, none⟩ = some f ∧ w.cell? ⟨j, i, none⟩ = some g) :
    w.drew.cell? ⟨k, 0, none⟩ = some a ∧ w.drew.cell? ⟨k, 1, none⟩ = some c ∧ w.drew.cell? ⟨k, 2, none⟩ = some d ∧ w.drew.cell? ⟨k, 3, none⟩ = some e ∧ w.drew.cell? ⟨k, 4, none⟩ = some f ∧ w.drew.cell? ⟨j, i, none⟩ = some g := h
theorem s6_fr {b : Nat} {w w' : World} {k j i : Nat} {a c d e f g : Value} {cs cs' : Array Value} {t t' : TypeId} (hf : Fr b w w') (hk : w.heap[k]? = some (.cells cs t (0, 0))) (ht : t ≠ 5) (hkb : k ≠ b) (hj : w.heap[j]? = some (.cells cs' t' (0, 0))) (ht' : t' ≠ 5) (hjb : j ≠ b)
    (h : w.cell? ⟨k, 0, none⟩ = some a ∧ w.cell? ⟨k, 1, none⟩ = some c ∧ w.cell? ⟨k, 2, none⟩ = some d ∧ w.cell? ⟨k, 3, none⟩ = some e ∧ w.cell? ⟨k, 4, none⟩ = some f ∧ w.cell? ⟨j, i, none⟩ = some g) :
    w'.cell? ⟨k, 0, none⟩ = some a ∧ w'.cell? ⟨k, 1, none⟩ = some c ∧ w'.cell? ⟨k, 2, none⟩ = some d ∧ w'.cell? ⟨k, 3, none⟩ = some e ∧ w'.cell? ⟨k, 4, none⟩ = some f ∧ w'.cell? ⟨j, i, none⟩ = some g :=
  ⟨cell_fr hf hk ht hkb h.1, cell_fr hf hk ht hkb h.2.1, cell_fr hf hk ht hkb h.2.2.1, cell_fr hf hk ht hkb h.2.2.2.1, cell_fr hf hk ht hkb h.2.2.2.2.1, cell_fr hf hj ht' hjb h.2.2.2.2.2⟩
/-- The methods that statement chooses from. -/
abbrev fnArr : Array Value := #[.nilFunc, .func (.func 70) #[] #[], .func (.func 71) #[] #[], .func (.func 72) #[] #[], .func (.func 73) #[] #[], .func (.func 74) #[] #[]]
set_option maxRecDepth 100000 in
set_option maxHeartbeats 8000000 in
theorem cstat1 (b : Nat) (X : ByteArray) (ro so bo : Option Addr) (rn rc sn sc bn bc : Nat) (w : World) (hbw : b < w.heap.size) (Q : World → Prop)
    (HC : Hid (∀ W, Below w.heap.size w W → Calls Try.prog 70 #[.pointer (some ⟨b, 0, none⟩), .agg #[.int .i64 1, .string X, .slice ro rn rc, .slice so sn sc, .slice bo bn bc]] W fun e w' => e = .returned (.tuple #[]) ∧ Q w' ∧ Fr b W w')) :
    Calls Try.prog 40 #[.pointer (some ⟨b, 0, none⟩), .agg #[.int .i64 1, .string X, .slice ro rn rc, .slice so sn sc, .slice bo bn bc]] w fun e w' => e = .returned (.tuple #[]) ∧ Q w' ∧ Fr b w w' := by
  have hB := al2 w (.cells #[.int .i64 1, .string X, .slice ro rn rc, .slice so sn sc, .slice bo bn bc] 47) (.cells fnArr 101)
  have hk1 : ((w.alloc (.cells #[.int .i64 1, .string X, .slice ro rn rc, .slice so sn sc, .slice bo bn bc] 47)).alloc (.cells fnArr 101)).heap[w.heap.size]? = _ := heap_keep (heap_alloc_new w (.cells #[.int .i64 1, .string X, .slice ro rn rc, .slice so sn sc, .slice bo bn bc] 47)) (al1 ..)
  have hk2 := heap_alloc_new (w.alloc (.cells #[.int .i64 1, .string X, .slice ro rn rc, .slice so sn sc, .slice bo bn bc] 47)) (.cells fnArr 101)
  have hsz : (w.alloc (.cells #[.int .i64 1, .string X, .slice ro rn rc, .slice so sn sc, .slice bo bn bc] 47)).heap.size = w.heap.size + 1 := by simp
  rw [hsz] at hk2
  go_enter Try.func40, Try.ntmps40
  go_wp2_with fail
  have hP0 : ((w.alloc (.cells #[.int .i64 1, .string X, .slice ro rn rc, .slice so sn sc, .slice bo bn bc] 47)).alloc (.cells fnArr 101)).cell? ⟨w.heap.size, 0, none⟩ = some (.int .i64 1) ∧ ((w.alloc (.cells #[.int .i64 1, .string X, .slice ro rn rc, .slice so sn sc, .slice bo bn bc] 47)).alloc (.cells fnArr 101)).cell? ⟨w.heap.size, 1, none⟩ = some (.string X) ∧ ((w.alloc (.cells #[.int .i64 1, .string X, .slice ro rn rc, .slice so sn sc, .slice bo bn bc] 47)).alloc (.cells fnArr 101)).cell? ⟨w.heap.size, 2, none⟩ = some (.slice ro rn rc) ∧ ((w.alloc (.cells #[.int .i64 1, .string X, .slice ro rn rc, .slice so sn sc, .slice bo bn bc] 47)).alloc (.cells fnArr 101)).cell? ⟨w.heap.size, 3, none⟩ = some (.slice so sn sc) ∧ ((w.alloc (.cells #[.int .i64 1, .string X, .slice ro rn rc, .slice so sn sc, .slice bo bn bc] 47)).alloc (.cells fnArr 101)).cell? ⟨w.heap.size, 4, none⟩ = some (.slice bo bn bc) ∧ ((w.alloc (.cells #[.int .i64 1, .string X, .slice ro rn rc, .slice so sn sc, .slice bo bn bc] 47)).alloc (.cells fnArr 101)).cell? ⟨w.heap.size + 1, 1, none⟩ = some (.func (.func 70) #[] #[]) := ⟨by rw [Lib.cell_of_heap hk1]; rfl, by rw [Lib.cell_of_heap hk1]; rfl, by rw [Lib.cell_of_heap hk1]; rfl, by rw [Lib.cell_of_heap hk1]; rfl, by rw [Lib.cell_of_heap hk1]; rfl, by rw [Lib.cell_of_heap hk2]; rfl⟩
  show Code.wp _ _ _ _ ((w.alloc (.cells #[.int .i64 1, .string X, .slice ro rn rc, .slice so sn sc, .slice bo bn bc] 47)).alloc (.cells fnArr 101))
  generalize (w.alloc (.cells #[.int .i64 1, .string X, .slice ro rn rc, .slice so sn sc, .slice bo bn bc] 47)).alloc (.cells fnArr 101) = w2 at *
  have hs2 := hB.size
  have HB := Lib.hid hB
  have HK1 := Lib.hid hk1
  have HK2 := Lib.hid hk2
  clear hsz hk1 hk2
  go_region_held3 (fun w' => w'.cell? ⟨w.heap.size, 0, none⟩ = some (.int .i64 1) ∧ w'.cell? ⟨w.heap.size, 1, none⟩ = some (.string X) ∧ w'.cell? ⟨w.heap.size, 2, none⟩ = some (.slice ro rn rc) ∧ w'.cell? ⟨w.heap.size, 3, none⟩ = some (.slice so sn sc) ∧ w'.cell? ⟨w.heap.size, 4, none⟩ = some (.slice bo bn bc) ∧ w'.cell? ⟨w.heap.size + 1, 1, none⟩ = some (.func (.func 70) #[] #[]))
    (first | assumption | (with_reducible refine s6_drew ?_; assumption))
    (first | (go_at_call 70; (with_reducible refine (HC.out _ (b_drew HB.out)).mono ?_); rintro e w8 ⟨rfl, hq, hf8⟩; have hS8 := s6_fr hf8 HK1.out (by decide) (by omega) HK2.out (by decide) (by omega) hP0))
  all_goals
    have hfr := (Fr.of HB.out (by omega)).trans ((Fr.refl b w2).drew.trans hf8)
    go_wp2
    go_end0
    exact ⟨rfl, hq, hfr⟩
set_option maxRecDepth 100000 in
set_option maxHeartbeats 8000000 in
theorem cstat2 (b : Nat) (X : ByteArray) (ro so bo : Option Addr) (rn rc sn sc bn bc : Nat) (w : World) (hbw : b < w.heap.size) (Q : World → Prop)
    (HC : Hid (∀ W, Below w.heap.size w W → Calls Try.prog 71 #[.pointer (some ⟨b, 0, none⟩), .agg #[.int .i64 2, .string X, .slice ro rn rc, .slice so sn sc, .slice bo bn bc]] W fun e w' => e = .returned (.tuple #[]) ∧ Q w' ∧ Fr b W w')) :
    Calls Try.prog 40 #[.pointer (some ⟨b, 0, none⟩), .agg #[.int .i64 2, .string X, .slice ro rn rc, .slice so sn sc, .slice bo bn bc]] w fun e w' => e = .returned (.tuple #[]) ∧ Q w' ∧ Fr b w w' := by
  have hB := al2 w (.cells #[.int .i64 2, .string X, .slice ro rn rc, .slice so sn sc, .slice bo bn bc] 47) (.cells fnArr 101)
  have hk1 : ((w.alloc (.cells #[.int .i64 2, .string X, .slice ro rn rc, .slice so sn sc, .slice bo bn bc] 47)).alloc (.cells fnArr 101)).heap[w.heap.size]? = _ := heap_keep (heap_alloc_new w (.cells #[.int .i64 2, .string X, .slice ro rn rc, .slice so sn sc, .slice bo bn bc] 47)) (al1 ..)
  have hk2 := heap_alloc_new (w.alloc (.cells #[.int .i64 2, .string X, .slice ro rn rc, .slice so sn sc, .slice bo bn bc] 47)) (.cells fnArr 101)
  have hsz : (w.alloc (.cells #[.int .i64 2, .string X, .slice ro rn rc, .slice so sn sc, .slice bo bn bc] 47)).heap.size = w.heap.size + 1 := by simp
  rw [hsz] at hk2
  go_enter Try.func40, Try.ntmps40
  go_wp2_with fail
  have hP0 : ((w.alloc (.cells #[.int .i64 2, .string X, .slice ro rn rc, .slice so sn sc, .slice bo bn bc] 47)).alloc (.cells fnArr 101)).cell? ⟨w.heap.size, 0, none⟩ = some (.int .i64 2) ∧ ((w.alloc (.cells #[.int .i64 2, .string X, .slice ro rn rc, .slice so sn sc, .slice bo bn bc] 47)).alloc (.cells fnArr 101)).cell? ⟨w.heap.size, 1, none⟩ = some (.string X) ∧ ((w.alloc (.cells #[.int .i64 2, .string X, .slice ro rn rc, .slice so sn sc, .slice bo bn bc] 47)).alloc (.cells fnArr 101)).cell? ⟨w.heap.size, 2, none⟩ = some (.slice ro rn rc) ∧ ((w.alloc (.cells #[.int .i64 2, .string X, .slice ro rn rc, .slice so sn sc, .slice bo bn bc] 47)).alloc (.cells fnArr 101)).cell? ⟨w.heap.size, 3, none⟩ = some (.slice so sn sc) ∧ ((w.alloc (.cells #[.int .i64 2, .string X, .slice ro rn rc, .slice so sn sc, .slice bo bn bc] 47)).alloc (.cells fnArr 101)).cell? ⟨w.heap.size, 4, none⟩ = some (.slice bo bn bc) ∧ ((w.alloc (.cells #[.int .i64 2, .string X, .slice ro rn rc, .slice so sn sc, .slice bo bn bc] 47)).alloc (.cells fnArr 101)).cell? ⟨w.heap.size + 1, 2, none⟩ = some (.func (.func 71) #[] #[]) := ⟨by rw [Lib.cell_of_heap hk1]; rfl, by rw [Lib.cell_of_heap hk1]; rfl, by rw [Lib.cell_of_heap hk1]; rfl, by rw [Lib.cell_of_heap hk1]; rfl, by rw [Lib.cell_of_heap hk1]; rfl, by rw [Lib.cell_of_heap hk2]; rfl⟩
  show Code.wp _ _ _ _ ((w.alloc (.cells #[.int .i64 2, .string X, .slice ro rn rc, .slice so sn sc, .slice bo bn bc] 47)).alloc (.cells fnArr 101))
  generalize (w.alloc (.cells #[.int .i64 2, .string X, .slice ro rn rc, .slice so sn sc, .slice bo bn bc] 47)).alloc (.cells fnArr 101) = w2 at *
  have hs2 := hB.size
  have HB := Lib.hid hB
  have HK1 := Lib.hid hk1
  have HK2 := Lib.hid hk2
  clear hsz hk1 hk2
  go_region_held3 (fun w' => w'.cell? ⟨w.heap.size, 0, none⟩ = some (.int .i64 2) ∧ w'.cell? ⟨w.heap.size, 1, none⟩ = some (.string X) ∧ w'.cell? ⟨w.heap.size, 2, none⟩ = some (.slice ro rn rc) ∧ w'.cell? ⟨w.heap.size, 3, none⟩ = some (.slice so sn sc) ∧ w'.cell? ⟨w.heap.size, 4, none⟩ = some (.slice bo bn bc) ∧ w'.cell? ⟨w.heap.size + 1, 2, none⟩ = some (.func (.func 71) #[] #[]))
    (first | assumption | (with_reducible refine s6_drew ?_; assumption))
    (first | (go_at_call 71; (with_reducible refine (HC.out _ (b_drew HB.out)).mono ?_); rintro e w8 ⟨rfl, hq, hf8⟩; have hS8 := s6_fr hf8 HK1.out (by decide) (by omega) HK2.out (by decide) (by omega) hP0))
  all_goals
    have hfr := (Fr.of HB.out (by omega)).trans ((Fr.refl b w2).drew.trans hf8)
    go_wp2
    go_end0
    exact ⟨rfl, hq, hfr⟩
set_option maxRecDepth 100000 in
set_option maxHeartbeats 8000000 in
theorem cstat3 (b : Nat) (X : ByteArray) (ro so bo : Option Addr) (rn rc sn sc bn bc : Nat) (w : World) (hbw : b < w.heap.size) (Q : World → Prop)
    (HC : Hid (∀ W, Below w.heap.size w W → Calls Try.prog 72 #[.pointer (some ⟨b, 0, none⟩), .agg #[.int .i64 3, .string X, .slice ro rn rc, .slice so sn sc, .slice bo bn bc]] W fun e w' => e = .returned (.tuple #[]) ∧ Q w' ∧ Fr b W w')) :
    Calls Try.prog 40 #[.pointer (some ⟨b, 0, none⟩), .agg #[.int .i64 3, .string X, .slice ro rn rc, .slice so sn sc, .slice bo bn bc]] w fun e w' => e = .returned (.tuple #[]) ∧ Q w' ∧ Fr b w w' := by
  have hB := al2 w (.cells #[.int .i64 3, .string X, .slice ro rn rc, .slice so sn sc, .slice bo bn bc] 47) (.cells fnArr 101)
  have hk1 : ((w.alloc (.cells #[.int .i64 3, .string X, .slice ro rn rc, .slice so sn sc, .slice bo bn bc] 47)).alloc (.cells fnArr 101)).heap[w.heap.size]? = _ := heap_keep (heap_alloc_new w (.cells #[.int .i64 3, .string X, .slice ro rn rc, .slice so sn sc, .slice bo bn bc] 47)) (al1 ..)
  have hk2 := heap_alloc_new (w.alloc (.cells #[.int .i64 3, .string X, .slice ro rn rc, .slice so sn sc, .slice bo bn bc] 47)) (.cells fnArr 101)
  have hsz : (w.alloc (.cells #[.int .i64 3, .string X, .slice ro rn rc, .slice so sn sc, .slice bo bn bc] 47)).heap.size = w.heap.size + 1 := by simp
  rw [hsz] at hk2
  go_enter Try.func40, Try.ntmps40
  go_wp2_with fail
  have hP0 : ((w.alloc (.cells #[.int .i64 3, .string X, .slice ro rn rc, .slice so sn sc, .slice bo bn bc] 47)).alloc (.cells fnArr 101)).cell? ⟨w.heap.size, 0, none⟩ = some (.int .i64 3) ∧ ((w.alloc (.cells #[.int .i64 3, .string X, .slice ro rn rc, .slice so sn sc, .slice bo bn bc] 47)).alloc (.cells fnArr 101)).cell? ⟨w.heap.size, 1, none⟩ = some (.string X) ∧ ((w.alloc (.cells #[.int .i64 3, .string X, .slice ro rn rc, .slice so sn sc, .slice bo bn bc] 47)).alloc (.cells fnArr 101)).cell? ⟨w.heap.size, 2, none⟩ = some (.slice ro rn rc) ∧ ((w.alloc (.cells #[.int .i64 3, .string X, .slice ro rn rc, .slice so sn sc, .slice bo bn bc] 47)).alloc (.cells fnArr 101)).cell? ⟨w.heap.size, 3, none⟩ = some (.slice so sn sc) ∧ ((w.alloc (.cells #[.int .i64 3, .string X, .slice ro rn rc, .slice so sn sc, .slice bo bn bc] 47)).alloc (.cells fnArr 101)).cell? ⟨w.heap.size, 4, none⟩ = some (.slice bo bn bc) ∧ ((w.alloc (.cells #[.int .i64 3, .string X, .slice ro rn rc, .slice so sn sc, .slice bo bn bc] 47)).alloc (.cells fnArr 101)).cell? ⟨w.heap.size + 1, 3, none⟩ = some (.func (.func 72) #[] #[]) := ⟨by rw [Lib.cell_of_heap hk1]; rfl, by rw [Lib.cell_of_heap hk1]; rfl, by rw [Lib.cell_of_heap hk1]; rfl, by rw [Lib.cell_of_heap hk1]; rfl, by rw [Lib.cell_of_heap hk1]; rfl, by rw [Lib.cell_of_heap hk2]; rfl⟩
  show Code.wp _ _ _ _ ((w.alloc (.cells #[.int .i64 3, .string X, .slice ro rn rc, .slice so sn sc, .slice bo bn bc] 47)).alloc (.cells fnArr 101))
  generalize (w.alloc (.cells #[.int .i64 3, .string X, .slice ro rn rc, .slice so sn sc, .slice bo bn bc] 47)).alloc (.cells fnArr 101) = w2 at *
  have hs2 := hB.size
  have HB := Lib.hid hB
  have HK1 := Lib.hid hk1
  have HK2 := Lib.hid hk2
  clear hsz hk1 hk2
  go_region_held3 (fun w' => w'.cell? ⟨w.heap.size, 0, none⟩ = some (.int .i64 3) ∧ w'.cell? ⟨w.heap.size, 1, none⟩ = some (.string X) ∧ w'.cell? ⟨w.heap.size, 2, none⟩ = some (.slice ro rn rc) ∧ w'.cell? ⟨w.heap.size, 3, none⟩ = some (.slice so sn sc) ∧ w'.cell? ⟨w.heap.size, 4, none⟩ = some (.slice bo bn bc) ∧ w'.cell? ⟨w.heap.size + 1, 3, none⟩ = some (.func (.func 72) #[] #[]))
    (first | assumption | (with_reducible refine s6_drew ?_; assumption))
    (first | (go_at_call 72; (with_reducible refine (HC.out _ (b_drew HB.out)).mono ?_); rintro e w8 ⟨rfl, hq, hf8⟩; have hS8 := s6_fr hf8 HK1.out (by decide) (by omega) HK2.out (by decide) (by omega) hP0))
  all_goals
    have hfr := (Fr.of HB.out (by omega)).trans ((Fr.refl b w2).drew.trans hf8)
    go_wp2
    go_end0
    exact ⟨rfl, hq, hfr⟩
set_option maxRecDepth 100000 in
set_option maxHeartbeats 8000000 in
theorem cstat4 (b : Nat) (X : ByteArray) (ro so bo : Option Addr) (rn rc sn sc bn bc : Nat) (w : World) (hbw : b < w.heap.size) (Q : World → Prop)
    (HC : Hid (∀ W, Below w.heap.size w W → Calls Try.prog 73 #[.pointer (some ⟨b, 0, none⟩), .agg #[.int .i64 4, .string X, .slice ro rn rc, .slice so sn sc, .slice bo bn bc]] W fun e w' => e = .returned (.tuple #[]) ∧ Q w' ∧ Fr b W w')) :
    Calls Try.prog 40 #[.pointer (some ⟨b, 0, none⟩), .agg #[.int .i64 4, .string X, .slice ro rn rc, .slice so sn sc, .slice bo bn bc]] w fun e w' => e = .returned (.tuple #[]) ∧ Q w' ∧ Fr b w w' := by
  have hB := al2 w (.cells #[.int .i64 4, .string X, .slice ro rn rc, .slice so sn sc, .slice bo bn bc] 47) (.cells fnArr 101)
  have hk1 : ((w.alloc (.cells #[.int .i64 4, .string X, .slice ro rn rc, .slice so sn sc, .slice bo bn bc] 47)).alloc (.cells fnArr 101)).heap[w.heap.size]? = _ := heap_keep (heap_alloc_new w (.cells #[.int .i64 4, .string X, .slice ro rn rc, .slice so sn sc, .slice bo bn bc] 47)) (al1 ..)
  have hk2 := heap_alloc_new (w.alloc (.cells #[.int .i64 4, .string X, .slice ro rn rc, .slice so sn sc, .slice bo bn bc] 47)) (.cells fnArr 101)
  have hsz : (w.alloc (.cells #[.int .i64 4, .string X, .slice ro rn rc, .slice so sn sc, .slice bo bn bc] 47)).heap.size = w.heap.size + 1 := by simp
  rw [hsz] at hk2
  go_enter Try.func40, Try.ntmps40
  go_wp2_with fail
  have hP0 : ((w.alloc (.cells #[.int .i64 4, .string X, .slice ro rn rc, .slice so sn sc, .slice bo bn bc] 47)).alloc (.cells fnArr 101)).cell? ⟨w.heap.size, 0, none⟩ = some (.int .i64 4) ∧ ((w.alloc (.cells #[.int .i64 4, .string X, .slice ro rn rc, .slice so sn sc, .slice bo bn bc] 47)).alloc (.cells fnArr 101)).cell? ⟨w.heap.size, 1, none⟩ = some (.string X) ∧ ((w.alloc (.cells #[.int .i64 4, .string X, .slice ro rn rc, .slice so sn sc, .slice bo bn bc] 47)).alloc (.cells fnArr 101)).cell? ⟨w.heap.size, 2, none⟩ = some (.slice ro rn rc) ∧ ((w.alloc (.cells #[.int .i64 4, .string X, .slice ro rn rc, .slice so sn sc, .slice bo bn bc] 47)).alloc (.cells fnArr 101)).cell? ⟨w.heap.size, 3, none⟩ = some (.slice so sn sc) ∧ ((w.alloc (.cells #[.int .i64 4, .string X, .slice ro rn rc, .slice so sn sc, .slice bo bn bc] 47)).alloc (.cells fnArr 101)).cell? ⟨w.heap.size, 4, none⟩ = some (.slice bo bn bc) ∧ ((w.alloc (.cells #[.int .i64 4, .string X, .slice ro rn rc, .slice so sn sc, .slice bo bn bc] 47)).alloc (.cells fnArr 101)).cell? ⟨w.heap.size + 1, 4, none⟩ = some (.func (.func 73) #[] #[]) := ⟨by rw [Lib.cell_of_heap hk1]; rfl, by rw [Lib.cell_of_heap hk1]; rfl, by rw [Lib.cell_of_heap hk1]; rfl, by rw [Lib.cell_of_heap hk1]; rfl, by rw [Lib.cell_of_heap hk1]; rfl, by rw [Lib.cell_of_heap hk2]; rfl⟩
  show Code.wp _ _ _ _ ((w.alloc (.cells #[.int .i64 4, .string X, .slice ro rn rc, .slice so sn sc, .slice bo bn bc] 47)).alloc (.cells fnArr 101))
  generalize (w.alloc (.cells #[.int .i64 4, .string X, .slice ro rn rc, .slice so sn sc, .slice bo bn bc] 47)).alloc (.cells fnArr 101) = w2 at *
  have hs2 := hB.size
  have HB := Lib.hid hB
  have HK1 := Lib.hid hk1
  have HK2 := Lib.hid hk2
  clear hsz hk1 hk2
  go_region_held3 (fun w' => w'.cell? ⟨w.heap.size, 0, none⟩ = some (.int .i64 4) ∧ w'.cell? ⟨w.heap.size, 1, none⟩ = some (.string X) ∧ w'.cell? ⟨w.heap.size, 2, none⟩ = some (.slice ro rn rc) ∧ w'.cell? ⟨w.heap.size, 3, none⟩ = some (.slice so sn sc) ∧ w'.cell? ⟨w.heap.size, 4, none⟩ = some (.slice bo bn bc) ∧ w'.cell? ⟨w.heap.size + 1, 4, none⟩ = some (.func (.func 73) #[] #[]))
    (first | assumption | (with_reducible refine s6_drew ?_; assumption))
    (first | (go_at_call 73; (with_reducible refine (HC.out _ (b_drew HB.out)).mono ?_); rintro e w8 ⟨rfl, hq, hf8⟩; have hS8 := s6_fr hf8 HK1.out (by decide) (by omega) HK2.out (by decide) (by omega) hP0))
  all_goals
    have hfr := (Fr.of HB.out (by omega)).trans ((Fr.refl b w2).drew.trans hf8)
    go_wp2
    go_end0
    exact ⟨rfl, hq, hfr⟩
set_option maxRecDepth 100000 in
set_option maxHeartbeats 8000000 in
theorem cstat5 (b : Nat) (X : ByteArray) (ro so bo : Option Addr) (rn rc sn sc bn bc : Nat) (w : World) (hbw : b < w.heap.size) (Q : World → Prop)
    (HC : Hid (∀ W, Below w.heap.size w W → Calls Try.prog 74 #[.pointer (some ⟨b, 0, none⟩), .agg #[.int .i64 5, .string X, .slice ro rn rc, .slice so sn sc, .slice bo bn bc]] W fun e w' => e = .returned (.tuple #[]) ∧ Q w' ∧ Fr b W w')) :
    Calls Try.prog 40 #[.pointer (some ⟨b, 0, none⟩), .agg #[.int .i64 5, .string X, .slice ro rn rc, .slice so sn sc, .slice bo bn bc]] w fun e w' => e = .returned (.tuple #[]) ∧ Q w' ∧ Fr b w w' := by
  have hB := al2 w (.cells #[.int .i64 5, .string X, .slice ro rn rc, .slice so sn sc, .slice bo bn bc] 47) (.cells fnArr 101)
  have hk1 : ((w.alloc (.cells #[.int .i64 5, .string X, .slice ro rn rc, .slice so sn sc, .slice bo bn bc] 47)).alloc (.cells fnArr 101)).heap[w.heap.size]? = _ := heap_keep (heap_alloc_new w (.cells #[.int .i64 5, .string X, .slice ro rn rc, .slice so sn sc, .slice bo bn bc] 47)) (al1 ..)
  have hk2 := heap_alloc_new (w.alloc (.cells #[.int .i64 5, .string X, .slice ro rn rc, .slice so sn sc, .slice bo bn bc] 47)) (.cells fnArr 101)
  have hsz : (w.alloc (.cells #[.int .i64 5, .string X, .slice ro rn rc, .slice so sn sc, .slice bo bn bc] 47)).heap.size = w.heap.size + 1 := by simp
  rw [hsz] at hk2
  go_enter Try.func40, Try.ntmps40
  go_wp2_with fail
  have hP0 : ((w.alloc (.cells #[.int .i64 5, .string X, .slice ro rn rc, .slice so sn sc, .slice bo bn bc] 47)).alloc (.cells fnArr 101)).cell? ⟨w.heap.size, 0, none⟩ = some (.int .i64 5) ∧ ((w.alloc (.cells #[.int .i64 5, .string X, .slice ro rn rc, .slice so sn sc, .slice bo bn bc] 47)).alloc (.cells fnArr 101)).cell? ⟨w.heap.size, 1, none⟩ = some (.string X) ∧ ((w.alloc (.cells #[.int .i64 5, .string X, .slice ro rn rc, .slice so sn sc, .slice bo bn bc] 47)).alloc (.cells fnArr 101)).cell? ⟨w.heap.size, 2, none⟩ = some (.slice ro rn rc) ∧ ((w.alloc (.cells #[.int .i64 5, .string X, .slice ro rn rc, .slice so sn sc, .slice bo bn bc] 47)).alloc (.cells fnArr 101)).cell? ⟨w.heap.size, 3, none⟩ = some (.slice so sn sc) ∧ ((w.alloc (.cells #[.int .i64 5, .string X, .slice ro rn rc, .slice so sn sc, .slice bo bn bc] 47)).alloc (.cells fnArr 101)).cell? ⟨w.heap.size, 4, none⟩ = some (.slice bo bn bc) ∧ ((w.alloc (.cells #[.int .i64 5, .string X, .slice ro rn rc, .slice so sn sc, .slice bo bn bc] 47)).alloc (.cells fnArr 101)).cell? ⟨w.heap.size + 1, 5, none⟩ = some (.func (.func 74) #[] #[]) := ⟨by rw [Lib.cell_of_heap hk1]; rfl, by rw [Lib.cell_of_heap hk1]; rfl, by rw [Lib.cell_of_heap hk1]; rfl, by rw [Lib.cell_of_heap hk1]; rfl, by rw [Lib.cell_of_heap hk1]; rfl, by rw [Lib.cell_of_heap hk2]; rfl⟩
  show Code.wp _ _ _ _ ((w.alloc (.cells #[.int .i64 5, .string X, .slice ro rn rc, .slice so sn sc, .slice bo bn bc] 47)).alloc (.cells fnArr 101))
  generalize (w.alloc (.cells #[.int .i64 5, .string X, .slice ro rn rc, .slice so sn sc, .slice bo bn bc] 47)).alloc (.cells fnArr 101) = w2 at *
  have hs2 := hB.size
  have HB := Lib.hid hB
  have HK1 := Lib.hid hk1
  have HK2 := Lib.hid hk2
  clear hsz hk1 hk2
  go_region_held3 (fun w' => w'.cell? ⟨w.heap.size, 0, none⟩ = some (.int .i64 5) ∧ w'.cell? ⟨w.heap.size, 1, none⟩ = some (.string X) ∧ w'.cell? ⟨w.heap.size, 2, none⟩ = some (.slice ro rn rc) ∧ w'.cell? ⟨w.heap.size, 3, none⟩ = some (.slice so sn sc) ∧ w'.cell? ⟨w.heap.size, 4, none⟩ = some (.slice bo bn bc) ∧ w'.cell? ⟨w.heap.size + 1, 5, none⟩ = some (.func (.func 74) #[] #[]))
    (first | assumption | (with_reducible refine s6_drew ?_; assumption))
    (first | (go_at_call 74; (with_reducible refine (HC.out _ (b_drew HB.out)).mono ?_); rintro e w8 ⟨rfl, hq, hf8⟩; have hS8 := s6_fr hf8 HK1.out (by decide) (by omega) HK2.out (by decide) (by omega) hP0))
  all_goals
    have hfr := (Fr.of HB.out (by omega)).trans ((Fr.refl b w2).drew.trans hf8)
    go_wp2
    go_end0
    exact ⟨rfl, hq, hfr⟩
end Go.Proofs.Ytmpjdlhigmofdaa.prt
namespace Go.Proofs.Ytmpjdlhigmofdaa.prt
open Go.RowKit Go.Sort lex tre

def kwC : ByteArray := ⟨#[99, 108, 117, 115, 116, 101, 114]⟩
set_option maxRecDepth 100000 in
set_option maxHeartbeats 8000000 in
theorem ccluster_of (l : List St) (IH : Hid (CBl l)) (w0 w : World) (b : Nat) (acc : List UInt8) (lev : Nat) (d : Bool) (kd : Int) (X : ByteArray) (ro so bo : Option Addr) (rn rc sn sc bn bc : Nat) (hB0 : Hid (Below w0.heap.size w0 w)) (hwb : w0.heap.size ≤ b) (HW : Hid (Wr w b acc lev (arrB d))) (HS : Hid (Sts w0 (.slice bo bn bc) l)) (HV : Hid (vL l)) (HO : Hid (okL l)) (hX : X.size ≤ 16)
    (hl : acc.length + (blkT d lev kwC X l).length + 10000 ≤ 1000000) :
    Calls Try.prog 74 #[.pointer (some ⟨b, 0, none⟩), .agg #[.int .i64 kd, .string X, .slice ro rn rc, .slice so sn sc, .slice bo bn bc]] w fun e w' => e = .returned (.tuple #[]) ∧ Wr w' b (acc ++ blkT d lev kwC X l) lev (arrB d) ∧ Fr b w w' := by
  have hB := al1 w (.cells #[.int .i64 kd, .string X, .slice ro rn rc, .slice so sn sc, .slice bo bn bc] 47)
  obtain ⟨-, c1, -, -, c4⟩ := at5_new w kd X (.slice ro rn rc) (.slice so sn sc) (.slice bo bn bc) 47
  have HL := Lib.hid hl
  clear hl
  go_enter Try.func74, Try.ntmps74
  go_wp2_with fail
  refine (IH.out w0 _ b acc lev d kwC X _ (Lib.hid (hB0.out.trans (hB.mono hB0.out.size))) hwb (Lib.hid (HW.out.keep hB)) HS HV HO hX (by decide) HL.out).mono ?_
  rintro e w8 ⟨rfl, h8, hf8⟩
  have hfr := (Fr.of hB (Nat.le_of_lt HW.out.lt)).trans hf8
  go_wp2
  go_end0
  exact ⟨rfl, h8, hfr⟩
theorem below_to {w0 w W : World} (h : Below w0.heap.size w0 w) (k : Below w.heap.size w W) : Below w0.heap.size w0 W := h.trans (k.mono h.size)
theorem cst_step (s : St) (ih : CBl s.body) : CSt s := by
  intro w0 w b acc lev d rv av bv hB0 hwb HW hfv hv hok hl
  obtain ⟨hnm, hrv, hav, hbv⟩ : s.name.length ≤ maxLen ∧ Prs w0 rv s.refs ∧ Prs w0 av s.attrs ∧ Sts w0 bv s.body := hfv.out
  have hform := hv.out.form
  have hatt := hv.out.att
  have hvals := hv.out.vals
  have hbody := hv.out.body
  have hoks := hok.out
  obtain ⟨ro, rn, rc, rfl⟩ : ∃ a n c, rv = .slice a n c := by obtain ⟨a, c, rfl, _⟩ := hrv; exact ⟨_, _, _, rfl⟩
  obtain ⟨so, sn, sc, rfl⟩ : ∃ a n c, av = .slice a n c := by obtain ⟨a, c, rfl, _⟩ := hav; exact ⟨_, _, _, rfl⟩
  obtain ⟨bo, bn, bc, rfl⟩ : ∃ a n c, bv = .slice a n c := by obtain ⟨a, c, rfl, _⟩ := hbv; exact ⟨_, _, _, rfl⟩
  have hlt := HW.out.lt
  cases hform with
  | node n a hn hk =>
    have ha := hatt (by show (1 : Int) ≠ 4; decide)
    have e : stS prL d (4 * lev) (.mk 1 n [] a []) = List.replicate (4 * lev) 32 ++ ((bb n).data.toList ++ ((bb (aft prL a)).data.toList ++ [59, 10])) := by simp [stS]
    have hlen := congrArg List.length e
    rw [List.length_append, List.length_replicate] at hlen
    rw [e]
    refine cstat1 b (bb n) ro so bo rn rc sn sc bn bc w hlt _ (Lib.hid fun W hBW => ?_)
    exact cnode_of b acc lev (arrB d) 1 (bb n) (bb (aft prL a)) a ro so bo rn rc sn sc bn bc W (Lib.hid (HW.out.keep hBW)) (by rw [← b_size]; exact nm_le hn) (Lib.hid (hav.keep (below_to hB0.out hBW))) hoks.1.2 (Lib.hid ha) (Lib.hid rfl) (by omega)
  | edge r r2 t a hr hk =>
    have ha := hatt (by show (2 : Int) ≠ 4; decide)
    have e : stS prL d (4 * lev) (.mk 2 [] (r :: r2 :: t) a []) = List.replicate (4 * lev) 32 ++ ((bb (refS d (r :: r2 :: t))).data.toList ++ ((bb (aft prL a)).data.toList ++ [59, 10])) := by simp [stS]
    have hlen := congrArg List.length e
    rw [List.length_append, List.length_replicate] at hlen
    rw [e]
    refine cstat2 b (bb []) ro so bo rn rc sn sc bn bc w hlt _ (Lib.hid fun W hBW => ?_)
    exact cedge_of b acc lev d 2 (bb []) (bb (aft prL a)) (bb (refS d (r :: r2 :: t))) (r :: r2 :: t) a ro so bo rn rc sn sc bn bc W (Lib.hid (HW.out.keep hBW)) (Lib.hid (hrv.keep (below_to hB0.out hBW))) hoks.1.1 (Lib.hid hr) (Lib.hid rfl) (Lib.hid (hav.keep (below_to hB0.out hBW))) hoks.1.2 (Lib.hid ha) (Lib.hid rfl) (by omega)
  | dflt n a hn hk =>
    have ha := hatt (by show (3 : Int) ≠ 4; decide)
    have e : stS prL d (4 * lev) (.mk 3 n [] a []) = List.replicate (4 * lev) 32 ++ ((bb n).data.toList ++ 32 :: ((bb (91 :: (attJ a ++ [93]))).data.toList ++ [59, 10])) := by
      show _ = List.replicate (4 * lev) 32 ++ (n ++ 32 :: ((91 :: (attJ a ++ [93])) ++ [59, 10]))
      rw [list_eq]; simp [stS]
    have hlen := congrArg List.length e
    rw [List.length_append, List.length_replicate] at hlen
    rw [e]
    refine cstat3 b (bb n) ro so bo rn rc sn sc bn bc w hlt _ (Lib.hid fun W hBW => ?_)
    exact cdflt_of b acc lev (arrB d) 3 (bb n) (bb (91 :: (attJ a ++ [93]))) a ro so bo rn rc sn sc bn bc W (Lib.hid (HW.out.keep hBW)) (by rw [← b_size]; rcases hn with rfl | rfl <;> decide) (Lib.hid (hav.keep (below_to hB0.out hBW))) hoks.1.2 (Lib.hid ha) (Lib.hid rfl) (by omega)
  | sset n x hn =>
    have hx := hvals ([], x) (by simp [St.attrs])
    have e : stS prL d (4 * lev) (.mk 4 n [] [([], x)] []) = List.replicate (4 * lev) 32 ++ (wSet ++ 32 :: ((bb n).data.toList ++ 32 :: 61 :: 32 :: ((bb (valS prL x)).data.toList ++ [59, 10]))) := by simp [stS]
    have hlen := congrArg List.length e
    rw [List.length_append, List.length_replicate] at hlen
    rw [e]
    obtain ⟨C, cap, e2, p0, p1, _, _⟩ := prs_in hav
    cases e2
    have hp1 : w0.cell? ⟨C.block, C.off + 1, none⟩ = some (.string (bb x)) := by simpa [Addr.add] using p1
    have hC : C.block < b := Nat.lt_of_lt_of_le (World.block_lt_of_cell? w0 ⟨C.block, C.off + 1, none⟩ hp1) hwb
    refine cstat4 b (bb n) ro (some C) bo rn rc 1 sc bn bc w hlt _ (Lib.hid fun W hBW => ?_)
    exact cset_of b acc lev (arrB d) 4 (bb n) (bb x) (bb (valS prL x)) C ro bo rn rc sc bn bc W (Lib.hid (HW.out.keep hBW)) (by rw [← b_size]; exact nm_le hn) (by rw [← b_size]; exact hx.1) hC (cell_later' (below_to hB0.out hBW) hp1) (Lib.hid hx.2) (Lib.hid rfl) (by omega)
  | clus n l hn =>
    have e : stS prL d (4 * lev) (.mk 5 n [] [] l) = blkT d lev kwC (bb n) l := by simp [stS, blkT, kwC, wClu]; rfl
    rw [e] at hl ⊢
    refine cstat5 b (bb n) ro so bo rn rc sn sc bn bc w hlt _ (Lib.hid fun W hBW => ?_)
    exact ccluster_of l (Lib.hid ih) w0 W b acc lev d 5 (bb n) ro so bo rn rc sn sc bn bc (Lib.hid (below_to hB0.out hBW)) hwb (Lib.hid (HW.out.keep hBW)) (Lib.hid hbv) (Lib.hid hbody) (Lib.hid hoks.2) (by rw [← b_size]; exact nm_le hn) hl
end Go.Proofs.Ytmpjdlhigmofdaa.prt
namespace Go.Proofs.Ytmpjdlhigmofdaa.prt
open Go.RowKit Go.Sort lex tre

set_option maxRecDepth 100000 in
set_option maxHeartbeats 8000000 in
theorem cbl_step (l : List St) (ih : ∀ s ∈ l, CBl s.body) : CBl l := by
  intro w0 w b acc lev d kw X v hB0 hwb HW HS HV HO hX hk hl
  obtain ⟨ao, cap, rfl, hc, hm, _⟩ := id HS.out
  have IH := Lib.hid ih
  unfold maxLen at hm
  have hlm : l.length ≤ 9223372036854775807 := by omega
  obtain ⟨S, hS⟩ : ∃ S, stL prL d (4 * (lev + 1)) l = S := ⟨_, rfl⟩
  have HS2 := Lib.hid hS
  have hbw := HW.out.lt
  have hne : w.heap.size ≠ b := by omega
  have HT : Hid (blkT d lev kw X l = (List.replicate (4 * lev) 32 ++ (strsL [kw, ⟨#[32]⟩, X, ⟨#[32, 123]⟩] ++ [10])) ++ (S ++ (List.replicate (4 * lev) 32 ++ (strsL [⟨#[125]⟩] ++ [10])))) := Lib.hid (by unfold blkT; rw [hS]; simp [strsL])
  have hpl : (List.replicate (4 * lev) 32 ++ (strsL [kw, ⟨#[32]⟩, X, ⟨#[32, 123]⟩] ++ [10])).length ≤ 4 * lev + 40 ∧ 4 * lev ≤ (List.replicate (4 * lev) 32 ++ (strsL [kw, ⟨#[32]⟩, X, ⟨#[32, 123]⟩] ++ [10])).length := by
    rw [List.length_append, List.length_replicate]
    constructor
    · simp [strsL]; omega
    · omega
  obtain ⟨P1, hP1⟩ : ∃ P1, List.replicate (4 * lev) 32 ++ (strsL [kw, ⟨#[32]⟩, X, ⟨#[32, 123]⟩] ++ [10]) = P1 := ⟨_, rfl⟩
  rw [hP1] at HT hpl
  have hl1 : acc.length + P1.length + S.length + 4 * lev + 2 + 10000 ≤ 1000000 := by
    rw [HT.out] at hl
    have e : (strsL [⟨#[125]⟩] ++ [10] : List UInt8).length = 2 := rfl
    rw [List.length_append, List.length_append, List.length_append, List.length_replicate, e] at hl
    omega
  have hlev : (lev : Int) ≤ 1000000 := by omega
  have HP1 := Lib.hid hP1
  clear ih hc hm hl hS hP1
  go_enter Try.func22, Try.ntmps22
  go_wp2_with fail
  refine (wline_of b acc lev (arrB d) w.heap.size 4 [kw, ⟨#[32]⟩, X, ⟨#[32, 123]⟩] _ (Lib.hid (HW.out.alloc _)) (Lib.hid (row_new w [kw, ⟨#[32]⟩, X, ⟨#[32, 123]⟩] #[.string kw, .string ⟨#[32]⟩, .string X, .string ⟨#[32, 123]⟩] rfl)) hne rfl (by decide) (by simp [strsL]; omega)).mono ?_
  rintro e w1 ⟨rfl, h1, hf1⟩
  rw [HP1.out] at h1
  have HF1 := Lib.hid (((Fr.refl b w).alloc (by omega) _).trans hf1)
  obtain ⟨c2, -, f2⟩ := wr_cells h1
  have hw2 : Wr (w1.setCell ⟨b, 2, none⟩ (.int .i64 ((lev : Int) + 1))) b (acc ++ P1) ((lev + 1 : Nat) : Int) (arrB d) := wr_lev h1 _
  have HW2 := Lib.hid hw2
  have HF2 := Lib.hid (HF1.out.set 2 (.int .i64 ((lev : Int) + 1)))
  clear h1 hf1 HF1 hw2 HW
  go_wp2_with fail
  go_loopw [24] (fun i wr => ∃ k : Nat, k ≤ l.length ∧ i = .int .i64 k ∧ Hid (Wr wr b (acc ++ P1 ++ stL prL d (4 * (lev + 1)) (l.take k)) ((lev + 1 : Nat) : Int) (arrB d)) ∧ Hid (Fr b w wr)) (fun i _ => l.length - (intOf i).toNat)
  case atStart => exact ⟨0, Nat.zero_le _, rfl, Lib.hid (by simpa [stL] using HW2.out), HF2⟩
  case round =>
    obtain ⟨k, hkl, rfl, HB, HF⟩ := hrel
    rename World => wr
    clear c2 f2
    by_cases hlt : k < l.length
    · have hBr : Below w0.heap.size w0 wr := hB0.out.trans (HF.out.1.mono hwb)
      obtain ⟨A, rfl, hst0⟩ := HS.out.get hlt
      obtain ⟨c0, c1, hnl, ⟨rv, c2, hrv⟩, ⟨av, c3, hav⟩, bv, c4, hbv⟩ := (stAt_eq _ _ _).1 hst0
      have c0 := cell_later' hBr c0
      have c1 := cell_later' hBr c1
      have c2 := cell_later' hBr c2
      have c3 := cell_later' hBr c3
      have c4 := cell_later' hBr c4
      have HFV : Hid (fvOk w0 ⟨l[k], 0, rv, av, bv⟩) := Lib.hid ⟨hnl, hrv, hav, hbv⟩
      obtain ⟨ro, rn, rc, rfl⟩ : ∃ a n c, rv = .slice a n c := by obtain ⟨a, c, rfl, _⟩ := hrv; exact ⟨_, _, _, rfl⟩
      obtain ⟨so, sn, sc, rfl⟩ : ∃ a n c, av = .slice a n c := by obtain ⟨a, c, rfl, _⟩ := hav; exact ⟨_, _, _, rfl⟩
      obtain ⟨bo, bn, bc, rfl⟩ : ∃ a n c, bv = .slice a n c := by obtain ⟨a, c, rfl, _⟩ := hbv; exact ⟨_, _, _, rfl⟩
      have HTK := Lib.hid (stL_take (pr := prL) d (4 * (lev + 1)) hlt)
      have hle := stL_le (pr := prL) d (4 * (lev + 1)) l (k + 1)
      rw [HS2.out, HTK.out, List.length_append] at hle
      have HVS := Lib.hid (vL_at HV.out hlt)
      have HOK := Lib.hid (okL_at HO.out hlt)
      have HR := Lib.hid (cst_step l[k] (IH.out l[k] (List.getElem_mem hlt)))
      obtain ⟨x, hx⟩ : ∃ x, l[k] = x := ⟨_, rfl⟩
      rw [hx] at c0 c1 HFV HTK HVS HOK HR hle
      clear hx hst0 hnl hrv hav hbv
      have hz : (acc ++ P1 ++ stL prL d (4 * (lev + 1)) (l.take k)).length + (stS prL d (4 * (lev + 1)) x).length + 10000 ≤ 1000000 := by
        rw [List.length_append, List.length_append]; omega
      obtain ⟨Y, hY⟩ : ∃ Y, bb x.name = Y := ⟨_, rfl⟩
      have HC : Hid (Calls Try.prog 40 #[.pointer (some ⟨b, 0, none⟩), .agg #[.int .i64 x.kind, .string Y, .slice ro rn rc, .slice so sn sc, .slice bo bn bc]] (wr.alloc (.cells #[.int .i64 x.kind, .string Y, .slice ro rn rc, .slice so sn sc, .slice bo bn bc] 47)) fun e w' => e = .returned (.tuple #[]) ∧ Wr w' b (acc ++ P1 ++ stL prL d (4 * (lev + 1)) (l.take k) ++ stS prL d (4 * (lev + 1)) x) ((lev + 1 : Nat) : Int) (arrB d) ∧ Fr b (wr.alloc (.cells #[.int .i64 x.kind, .string Y, .slice ro rn rc, .slice so sn sc, .slice bo bn bc] 47)) w') := Lib.hid (by
        rw [← hY]; exact HR.out w0 _ b _ (lev + 1) d _ _ _ (Lib.hid (below_to hBr (al1 ..))) hwb (Lib.hid (HB.out.alloc _)) HFV HVS HOK hz)
      rw [hY] at c1
      have z0 : (0 : Int) ≤ (k : Int) := by omega
      have z1 : (k : Int) < (l.length : Int) := by omega
      have hbr := HB.out.lt
      clear hY hle HR HFV hBr hz
      go_wp2_with fail
      refine (HC.out).mono ?_
      rintro e w3 ⟨rfl, h3, hf3⟩
      have H3 : Hid (Wr w3 b (acc ++ P1 ++ stL prL d (4 * (lev + 1)) (l.take (k + 1))) ((lev + 1 : Nat) : Int) (arrB d)) := Lib.hid (by rw [HTK.out, ← List.append_assoc]; exact h3)
      have HF3 := Lib.hid ((HF.out.alloc (Nat.le_of_lt hbr) _).trans hf3)
      clear h3 hf3 HC
      go_wp2
      go_roundw
      case rel => exact ⟨k + 1, by omega, by go_num, H3, HF3⟩
      case measure => simp [intOf]; omega
    · obtain rfl : k = l.length := by omega
      have hall := HB.out
      rw [List.take_length, HS2.out] at hall
      obtain ⟨c2, -, f2⟩ := wr_cells hall
      have c2 : wr.cell? ⟨b, 2, none⟩ = some (.int .i64 ((lev : Int) + 1)) := c2
      have hw3 : Wr (wr.setCell ⟨b, 2, none⟩ (.int .i64 (lev : Int))) b (acc ++ P1 ++ S) (lev : Int) (arrB d) := wr_lev hall _
      have HF3 := Lib.hid (HF.out.set 2 (.int .i64 (lev : Int)))
      have hz : ((lev : Int) + 1 - 1) = (lev : Int) := by omega
      have HW3 := Lib.hid hw3
      have hs3 : b < (wr.setCell ⟨b, 2, none⟩ (.int .i64 (lev : Int))).heap.size := hw3.lt
      have hlz : (acc ++ P1 ++ S).length + 4 * lev + 10 ≤ 1000000 := by rw [List.length_append, List.length_append]; omega
      clear hall hw3 HB HW2
      go_wp2_with fail
      have hsz : (wr.setCell ⟨b, 2, none⟩ (.int .i64 (lev : Int))).heap.size = wr.heap.size := by simp [World.setCell]
      have hrow := row_new (wr.setCell ⟨b, 2, none⟩ (.int .i64 (lev : Int))) [⟨#[125]⟩] #[.string ⟨#[125]⟩] rfl
      rw [hsz] at hrow
      have hl5 : (acc ++ P1 ++ S).length + 4 * lev + (strsL [⟨#[125]⟩]).length + 1 ≤ 1000000 := by
        have e : (strsL [⟨#[125]⟩]).length = 1 := rfl
        omega
      refine (wline_of b (acc ++ P1 ++ S) lev (arrB d) wr.heap.size 1 [⟨#[125]⟩] _ (Lib.hid (HW3.out.alloc _)) (Lib.hid hrow) (by omega) rfl (by decide) hl5).mono ?_
      rintro e w5 ⟨rfl, h5, hf5⟩
      have hfr := (HF3.out.alloc (Nat.le_of_lt hs3) _).trans hf5
      have hfin : Wr w5 b (acc ++ blkT d lev kw X l) lev (arrB d) := by rw [HT.out]; simpa [List.append_assoc] using h5
      go_wp2
      go_end0
      exact ⟨rfl, hfin, hfr⟩
theorem cblock_ok (l : List St) : CBl l := lst_ind cbl_step l
end Go.Proofs.Ytmpjdlhigmofdaa.prt
