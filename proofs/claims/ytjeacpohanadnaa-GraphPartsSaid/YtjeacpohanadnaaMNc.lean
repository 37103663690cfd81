/-
  What the text functions of layer 1 and of its reference return for numbers: FormatUint at base 10, the reference's digits, and Format of both. Conditions: the table of powers of ten holds what the library lays.
  What Format of layer 1 and of its reference return: both the same text, for every int. Conditions: the table of powers of ten holds what the library lays.
-/
import Derived.Test.YtjeacpohanadnaaMNa
import Derived.Lib.ItoaMem
import Derived.Lib.TrimByte
import Derived.Lib.ItoaLen
import Derived.Lib.Walk
namespace Go.Proofs.Ytjeacpohanadnaa
open Go.RowKit Go.Sort

/-- The table of powers of ten, as the library lays it. -/
abbrev Tab (w : World) : Prop := Lib.TabIs Try.prog w "internal/strconv.uint64pow10" .u64 Lib.pow10Tab

theorem holds_zero0 (w : World) (T : TypeId) (nd : Nat) (hs : nd ≤ 24) : Holds (fun (b : UInt8) => Value.int .u8 (b.toNat : Int)) (w.alloc (.cells Lib.zeros24 T)) w.heap.size 0 (Array.replicate nd (0 : UInt8)) := fun j hj => by
  have hj' : j < nd := by simpa using hj
  refine ⟨?_, World.frozen?_alloc_new _ _ _ _⟩
  rw [World.cell?_alloc_new, Lib.zeros24_at _ (by omega), getElem!_pos _ j hj]
  simp

theorem fin0 (w : World) (o : Obj) (dk : Array UInt8) (k : Nat) : Below w.heap.size w ((putRow (fun (b : UInt8) => Value.int .u8 (b.toNat : Int)) (w.alloc o) w.heap.size 0 dk).drewN k) := by
  rw [alloc_eq_grow]
  obtain ⟨os', _, e⟩ := putRow_grow_new (fun (b : UInt8) => Value.int .u8 (b.toNat : Int)) w #[o] w.heap.size 0 dk (Nat.le_refl _)
  rw [e]
  refine ⟨rfl, rfl, rfl, ?_, fun i hi => ?_⟩
  · simp [World.drewN, grow]
  · exact heap_grow_old w os' hi




theorem ba_app (l r : List UInt8) : ((⟨l.toArray⟩ : ByteArray) ++ (⟨r.toArray⟩ : ByteArray)) = ⟨(l ++ r).toArray⟩ := by
  apply ByteArray.ext
  simp [ByteArray.data_append]
theorem ba_drop (l : List UInt8) (k : Nat) : ((⟨l.toArray⟩ : ByteArray).extract k l.length).data.toList = l.drop k := by
  rw [Lib.extract_mk, ← List.length_drop, List.take_length]
theorem ba_drop_size (l : List UInt8) (k : Nat) : ((⟨l.toArray⟩ : ByteArray).extract k l.length).size ≤ l.length := by
  rw [Lib.extract_mk, Lib.size_mk, ← List.length_drop, List.take_length, List.length_drop]; omega

theorem trim_le (l : List UInt8) (c : UInt8) : (Lib.trimRightB l c).length ≤ l.length := by
  unfold Lib.trimRightB
  have := (List.dropWhile_sublist (l := l.reverse) (· == c)).length_le
  simpa using this


theorem dec_len (u : Nat) (h : u < 18446744073709551616) : (Lib.decDigits u).length ≤ 20 := by
  rw [Lib.decDigits_length]; exact Lib.nDigits_le20 u h
end Go.Proofs.Ytjeacpohanadnaa
namespace Go.Proofs.Ytjeacpohanadnaa
open Go.RowKit Go.Sort

/-- The text of n thousandths. -/
def fmtL (n : Int) : List UInt8 :=
  (if n < 0 then [45] else []) ++ Lib.decDigits (n.natAbs / 1000) ++ (if n.natAbs % 1000 = 0 then [] else 46 :: Lib.trimRightB ((Lib.decDigits (1000 + n.natAbs % 1000)).drop 1) 48)

end Go.Proofs.Ytjeacpohanadnaa
