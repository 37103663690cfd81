/-
  What Valid, Joined, Has, Place of the reference of layer 14 return. Conditions: a digraph or a list in memory.
-/
import Derived.Test.YtncedgnpdojkkaaDigMem
import Derived.Test.YtncedgnpdojkkaaDigPlain
namespace Go.Proofs.Ytncedgnpdojkkaa.dig
open Go.RowKit

theorem valid_no {n : Int} {l : List Ar} {k : Nat} (hk : k < l.length) (h : okA n l[k] = false) : validD n l = false := by
  cases q : validD n l with
  | false => rfl
  | true => have := (validD_iff.1 q).2.2.2 l[k] (List.getElem_mem hk); rw [h] at this; cases this
theorem all_step {n : Int} {l : List Ar} {k : Nat} (hk : k < l.length) (h : (l.take k).all (okA n) = true) (h1 : okA n l[k] = true) : (l.take (k + 1)).all (okA n) = true := by
  rw [List.take_succ_eq_append_getElem hk, List.all_append, h, List.all_cons, h1, List.all_nil]; rfl
set_option maxRecDepth 100000 in
set_option maxHeartbeats 4000000 in
theorem rvalid_of (v : Value) (n : Int) (l : List Ar) (R : Bool) (w : World) (h : Hid (DgV w v n l)) (hr : Hid (validD n l = R)) :
    Calls Try.prog 20 #[v] w fun e w' => e = .returned (.bool R) ∧ Below w.heap.size w w' := by
  obtain ⟨av, rfl, hl⟩ := id h.out
  obtain ⟨ao, c, rfl, hc1, hc2, -⟩ := id hl
  unfold maxLen at hc2
  have hlm : l.length ≤ 9223372036854775807 := by omega
  have HL := Lib.hid hl
  have HB1 := Lib.hid (al1 w (.cells #[.int .i64 n, .slice ao l.length c] 24))
  have HK1 := Lib.hid (blk_new w #[.int .i64 n, .slice ao l.length c] 24)
  clear h hl hc1 hc2
  have hfe := hr.out
  by_cases q1 : n < 0
  case pos =>
    have hR : R = false := by rw [← hfe]; unfold validD; rw [decide_eq_false (by omega)]; rfl
    have b1 : decide (n < 0) = true := decide_eq_true q1
    subst hR
    clear q1 hfe hr
    go_enter Try.func20, Try.ntmps20
    go_wp2
    go_ret
    exact ⟨rfl, HB1.out⟩
  have b1 : decide (n < 0) = false := decide_eq_false q1
  by_cases q2 : 64 < n
  case pos =>
    have hR : R = false := by rw [← hfe]; unfold validD; rw [decide_eq_false (show ¬ n ≤ 64 by omega), Bool.and_false]; rfl
    have b2 : decide (64 < n) = true := decide_eq_true q2
    subst hR
    clear q1 q2 hfe hr
    go_enter Try.func20, Try.ntmps20
    go_wp2
    go_ret
    exact ⟨rfl, HB1.out⟩
  have b2 : decide (64 < n) = false := decide_eq_false q2
  by_cases q3 : (256 : Int) < (l.length : Int)
  case pos =>
    have hR : R = false := by rw [← hfe]; unfold validD; rw [decide_eq_false (show ¬ l.length ≤ 256 by omega), Bool.and_false]; rfl
    have b3 : decide ((256 : Int) < (l.length : Int)) = true := decide_eq_true q3
    subst hR
    clear q1 q2 q3 hfe hr
    go_enter Try.func20, Try.ntmps20
    go_wp2
    go_ret
    exact ⟨rfl, HB1.out⟩
  have b3 : decide ((256 : Int) < (l.length : Int)) = false := decide_eq_false q3
  have HR : Hid (l.all (okA n) = true → R = true) := Lib.hid (fun q => by rw [← hfe]; exact validD_iff.2 ⟨by omega, by omega, by omega, fun a ha => List.all_eq_true.1 q a ha⟩)
  have HNO : Hid (∀ k (hk : k < l.length), okA n l[k] = false → R = false) := Lib.hid (fun k hk q => by rw [← hfe]; exact valid_no hk q)
  clear q1 q2 q3 hfe hr
  go_enter Try.func20, Try.ntmps20
  go_wp2_with fail
  obtain ⟨g0, hg0⟩ : ∃ g, w.heap.size = g := ⟨_, rfl⟩
  rw [hg0] at HK1
  try simp only [hg0]
  generalize w.alloc (.cells #[.int .i64 n, .slice ao l.length c] 24) = w1 at HB1 HK1 ⊢
  have HG0 := Lib.hid hg0
  clear hg0
  go_loopw [3] (fun iv wr => ∃ k : Nat, iv = .int .i64 k ∧ k ≤ l.length ∧ (l.take k).all (okA n) = true ∧ Below w1.heap.size w1 wr) (fun iv _ => l.length - (intOf iv).toNat)
  case atStart => exact ⟨0, rfl, Nat.zero_le _, rfl, Below.refl _ _⟩
  case round =>
    obtain ⟨k, rfl, hk, hall, hb⟩ := hrel
    rename World => wr
    have HB := Lib.hid hb
    have HA := Lib.hid hall
    have hsz := HB1.out.size
    have c0 : wr.cell? ⟨g0, 0, none⟩ = some (.int .i64 n) := by rw [blk_cell (blk_keep HB.out HK1.out)]; rfl
    have c1 : wr.cell? ⟨g0, 1, none⟩ = some (.slice ao l.length c) := by rw [blk_cell (blk_keep HB.out HK1.out)]; rfl
    have hgl : g0 < wr.heap.size := blk_lt (blk_keep HB.out HK1.out)
    clear hb hall
    by_cases hlt : k < l.length
    case neg =>
      obtain rfl : k = l.length := by omega
      have hR : R = true := HR.out (by have := HA.out; rwa [List.take_length] at this)
      subst hR
      go_wp2
      go_ret
      exact ⟨rfl, HB1.out.trans (HB.out.mono hsz)⟩
    obtain ⟨A, rfl, p0, p1⟩ := (HL.out.keep (below_keep HB.out HB1.out)).at hlt
    have hno := HNO.out k hlt
    have hyes := all_step hlt HA.out
    obtain ⟨x, hx⟩ : ∃ x, l[k] = x := ⟨_, rfl⟩
    rw [hx] at p0 p1 hno hyes
    obtain ⟨x, y⟩ := x
    simp only at p0 p1
    have HY : Hid (okA n (x, y) = true → (l.take (k + 1)).all (okA n) = true) := Lib.hid hyes
    have HN : Hid (okA n (x, y) = false → R = false) := Lib.hid hno
    have i0 : (0 : Int) ≤ (k : Int) := by omega
    have i1 : (k : Int) < (l.length : Int) := by omega
    have hb2 := below_keep (al1 wr (.cells #[.int .i64 x, .int .i64 y] 37)) HB.out
    clear hx hno hyes
    by_cases r1 : x < 0
    case pos =>
      have hR : R = false := HN.out (by unfold okA; rw [decide_eq_false (show ¬ 0 ≤ (x, y).1 by simp only; omega)]; rfl)
      have e1 : decide (x < 0) = true := decide_eq_true r1
      subst hR
      clear r1
      go_wp2
      go_ret
      exact ⟨rfl, HB1.out.trans (hb2.mono hsz)⟩
    have e1 : decide (x < 0) = false := decide_eq_false r1
    by_cases r2 : n ≤ x
    case pos =>
      have hR : R = false := HN.out (by unfold okA; rw [decide_eq_false (show ¬ (x, y).1 < n by simp only; omega), Bool.and_false]; rfl)
      have e2 : decide (n ≤ x) = true := decide_eq_true r2
      subst hR
      clear r1 r2
      go_wp2
      go_ret
      exact ⟨rfl, HB1.out.trans (hb2.mono hsz)⟩
    have e2 : decide (n ≤ x) = false := decide_eq_false r2
    by_cases r3 : y < 0
    case pos =>
      have hR : R = false := HN.out (by unfold okA; rw [decide_eq_false (show ¬ 0 ≤ (x, y).2 by simp only; omega), Bool.and_false]; rfl)
      have e3 : decide (y < 0) = true := decide_eq_true r3
      subst hR
      clear r1 r2 r3
      go_wp2
      go_ret
      exact ⟨rfl, HB1.out.trans (hb2.mono hsz)⟩
    have e3 : decide (y < 0) = false := decide_eq_false r3
    by_cases r4 : n ≤ y
    case pos =>
      have hR : R = false := HN.out (by unfold okA; rw [decide_eq_false (show ¬ (x, y).2 < n by simp only; omega), Bool.and_false])
      have e4 : decide (n ≤ y) = true := decide_eq_true r4
      subst hR
      clear r1 r2 r3 r4
      go_wp2
      go_ret
      exact ⟨rfl, HB1.out.trans (hb2.mono hsz)⟩
    have e4 : decide (n ≤ y) = false := decide_eq_false r4
    have HN2 := Lib.hid (HY.out (okA_iff.2 ⟨by simp only; omega, by simp only; omega, by simp only; omega, by simp only; omega⟩))
    clear r1 r2 r3 r4
    go_wp2
    go_roundw
    case rel => exact ⟨k + 1, by go_num, by omega, HN2.out, hb2⟩
    case measure => simp [intOf]; omega
end Go.Proofs.Ytncedgnpdojkkaa.dig
