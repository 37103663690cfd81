/-
  What reached of the landed code of layer 15 returns. Condition: lists of heads in memory.
-/
import Derived.Test.YtncedgnpdojkkaaTpoCm
namespace Go.Proofs.Ytncedgnpdojkkaa.tpo
open Go.RowKit dig

theorem own_lit (w : World) (B : Nat) (x : Int) (hB : B ≤ w.heap.size) : Irow (w.alloc (.cells #[.int .i64 x] 3)) B (.slice (some ⟨w.heap.size, 0, none⟩) 1 1) [x] :=
  ⟨rfl, .inr ⟨w.heap.size, 1, #[.int .i64 x], rfl, hB, heap_alloc_new w _, Nat.le_refl _, by decide, rfl, rfl⟩⟩
/-- The last number of a list is cut off. -/
theorem own_pop {w : World} {B g cap k : Nat} {l : List Int} {u : Int} (h : Irow w B (.slice (some ⟨g, 0, none⟩) (k + 1) cap) (l ++ [u])) (hk : l.length = k) : Irow w B (.slice (some ⟨g, 0, none⟩) k cap) l := by
  have hlu : (l ++ [u]).length = k + 1 := by simp [hk]
  unfold Irow at h ⊢
  rw [hlu] at h
  rw [hk]
  rcases h.2 with ⟨e, _⟩ | ⟨g, c, cur, e, hb, hg, hc, hm, hs, ht⟩
  · cases e
  · injection e with e1 _ e3
    injection e1 with e1
    injection e1 with e1
    subst e1
    subst e3
    refine ⟨by rw [flat_int, List.length_map, hk, Nat.mul_one], .inr ⟨_, _, cur, rfl, hb, hg, by omega, hm, hs, ?_⟩⟩
    have h1 := congrArg (List.take (k * 1)) ht
    rw [List.take_take, Nat.min_eq_left (by omega)] at h1
    rw [h1, List.flatMap_append, List.take_append_of_le_length (by rw [flat_int, List.length_map]; omega), List.take_of_length_le (by rw [flat_int, List.length_map]; omega)]
/-- How many cells of a row of bools say no. -/
def falses (w : World) (g n : Nat) : Nat := (List.range n).countP fun j => match w.cell? ⟨g, j, none⟩ with | some (.bool b) => !b | _ => false
theorem falses_of {w : World} {B g n : Nat} {I : List Bool} (h : Brow w B g n I) : falses w g n = I.count false := by
  have hm : I = (List.range n).map fun j => tpo.mk I j := by
    refine List.ext_getElem (by simp [h.1]) fun j h1 h2 => ?_
    rw [List.getElem_map, List.getElem_range]
    unfold tpo.mk
    rw [List.getD_eq_getElem?_getD, List.getElem?_eq_getElem h1]; rfl
  have hc : I.count false = ((List.range n).map fun j => tpo.mk I j).count false := by rw [← hm]
  rw [hc, List.count_eq_countP, List.countP_map]
  unfold falses
  refine List.countP_congr fun j hj => ?_
  rw [h.at (List.mem_range.1 hj)]
  simp only [Function.comp]
  cases tpo.mk I j <;> simp
/-- What reached leaves: a row of bools of its own. -/
def BrOut (I : List Bool) (n : Nat) (w : World) (e : Ending) (w' : World) : Prop := ∃ g, e = .returned (.slice (some ⟨g, 0, none⟩) n n) ∧ Brow w' w.heap.size g n I ∧ Below w.heap.size w w'

set_option maxRecDepth 100000 in
set_option maxHeartbeats 8000000 in
theorem creached_of (nv : Value) (n x : Nat) (l : List Ar) (w : World) (h : Hid (Lst w nv (outsL l n))) (hok : Hid (∀ a ∈ l, okA (n : Int) a = true)) (hn : n ≤ 64) (hl : l.length ≤ 256) (hx : x < n) :
    Calls Try.prog 26 #[nv, .int .i64 x] w (BrOut (rchI n l x) n w) := by
  obtain ⟨L, hL⟩ : ∃ L, outsL l n = L := ⟨_, rfl⟩
  have hLl : L.length = n := by rw [← hL, outsL_len]
  have hLa : ∀ u (hu : u < n), L[u]'(by omega) = outs l (u : Int) := fun u hu => by
    have := outsL_at (l := l) hu
    rw [hL, List.getElem?_eq_getElem (by omega)] at this
    exact Option.some.inj this
  have HH : Hid (Lst w nv L) := Lib.hid (by rw [← hL]; exact h.out)
  obtain ⟨no, nc, rfl, hc1, hc2, -⟩ := id HH.out
  rw [hLl] at HH
  have HLA := Lib.hid hLa
  clear h hL hLa hc1 hc2
  obtain ⟨i0, hi, hz0, hz1, hz2⟩ := info_of_cb
  have hbm : i0.bytes * n ≤ 281474976710656 := by rw [hz2]; omega
  have hmm : n ≤ maxLen := by unfold maxLen; omega
  have z0 : (0 : Int) ≤ (x : Int) := by omega
  have z1 : (x : Int) < (n : Int) := by omega
  go_enter Try.func26, Try.ntmps26
  go_wp2_with (at_make; rw [hLl]; refine wpList_make_full _ rfl _ _ 38 rfl w.heap.size 4 i0 (.bool false) 1 Try.underlying38 hi hz0 hz1 .i64 .i64 _ _ n rfl rfl rfl rfl hbm hmm (Nat.le_refl _) ?_; intro w3 hown hgrow; have hrow0 := Frow.made (c := Value.bool) rfl hown; have hx0 := Brow.at hrow0 hx; have hx1 := Frow.free hrow0 x; have hb3 := (Below.refl w.heap.size w).grown hgrow (Nat.le_refl _) (fun q hq => by cases hq))
  obtain ⟨W4, hW4⟩ : ∃ W, w3.setCell ⟨w.heap.size, x, none⟩ (.bool true) = W := ⟨_, rfl⟩
  obtain ⟨W5, hW5⟩ : ∃ W, W4.alloc (.cells #[.int .i64 x] 3) = W := ⟨_, rfl⟩
  have hs4 : W4.heap.size = w3.heap.size := by rw [← hW4]; simp
  have hb5 := al1 W4 (.cells #[.int .i64 x] 3)
  rw [hW5] at hb5
  have hg1 : w.heap.size < W4.heap.size := by rw [hs4]; exact World.block_lt_of_cell? _ _ hx0
  have hb4 : Below w.heap.size w W4 := by rw [← hW4]; exact hb3.setCell (Nat.le_refl _) _
  have HB5 := Lib.hid (below_keep hb5 hb4)
  have HR5 : Hid (Brow W5 w.heap.size w.heap.size n ((List.replicate n false).set x true)) := Lib.hid (by
    refine Frow.keep ?_ hb5
    rw [← hW4]; exact Frow.put hrow0 x true)
  have hi5 : Irow W5 (w.heap.size + 1) (.slice (some ⟨w3.heap.size, 0, none⟩) 1 1) [(x : Int)] := by
    rw [← hW5, ← hs4]; exact own_lit W4 _ x (by omega)
  have HI5 := Lib.hid hi5
  rw [hW4, hW5]
  obtain ⟨g, hg⟩ : ∃ g, w.heap.size = g := ⟨_, rfl⟩
  have HG := Lib.hid hg
  simp only [hg] at HB5 HR5 HI5 ⊢
  clear hW4 hW5 hs4 hb5 hg1 hb4 hi5 hrow0 hx0 hx1 hb3 hown hgrow hg z0 z1
  go_loopw [6] (fun ov wr => ∃ (io : Option Addr) (ic : Nat) (C : List Int) (I : List Bool), ov = .slice io C.length ic ∧ Irow wr (g + 1) (.slice io C.length ic) C ∧ Brow wr g g n I ∧ Dfs l n x I C (-1) 0 ∧ meas I C ≤ 2 * n + 1 ∧ Below g w wr) (fun ov wr => 2 * falses wr g n + lenOf ov)
  case atStart => exact ⟨_, _, [(x : Int)], _, rfl, HI5.out, HR5.out, by have := Dfs.start (l := l) (n := n) (v := (x : Int)) (by omega) (by omega); rwa [Int.toNat_natCast] at this, by have := meas_start n (x : Int); rwa [Int.toNat_natCast] at this, HB5.out⟩
  case round =>
    obtain ⟨io, ic, C, I, rfl, hir, hrow, hdfs, hms, hB⟩ := hrel
    rename World => wr
    have HIR := Lib.hid hir
    have HROW := Lib.hid hrow
    have HDFS := Lib.hid hdfs
    have HB := Lib.hid hB
    have HF := Lib.hid (falses_of hrow)
    clear hir hrow hdfs hB HR5 HI5 HB5
    by_cases h0 : C.length = 0
    case pos =>
      obtain rfl : C = [] := List.length_eq_zero_iff.1 h0
      have hI := HDFS.out.done hok.out (by omega) (by omega)
      rw [Int.toNat_natCast] at hI
      subst hI
      have e1 : ¬ (0 : Int) < 0 := by omega
      go_wp2
      go_ret
      exact ⟨g, rfl, by rw [HG.out]; exact HROW.out, by rw [HG.out]; exact HB.out⟩
    obtain ⟨D, u, rfl⟩ : ∃ D u, C = D ++ [u] := ⟨C.dropLast, _, (List.dropLast_concat_getLast (fun e => h0 (by rw [e]; rfl))).symm⟩
    obtain ⟨hd1, hu0, hu1⟩ := HDFS.out.pop
    obtain ⟨u, rfl⟩ := Int.eq_ofNat_of_zero_le hu0
    have hun : u < n := by omega
    obtain ⟨k, hk⟩ : ∃ k, D.length = k := ⟨_, rfl⟩
    have hlk : (D ++ [(u : Int)]).length = k + 1 := by simp [hk]
    rw [hlk] at HIR ⊢
    have hk64 : k ≤ 128 := by
      unfold meas at hms; rw [hlk] at hms; omega
    obtain ⟨go, cap, arr, eio, hgo, -, hkc, hcm, -⟩ := own_blk (by have := HIR.out; unfold Irow at this; rw [hlk] at this; exact this) (by omega)
    obtain ⟨rfl, -, rfl⟩ : io = some ⟨go, 0, none⟩ ∧ True ∧ ic = cap := by cases eio; exact ⟨rfl, trivial, rfl⟩
    have hcu : wr.cell? ⟨go, k, none⟩ = some (.int .i64 (u : Int)) := by
      have hh := HIR.out
      unfold Irow at hh
      rw [hlk, flat_int] at hh
      rw [hh.cellAt k (by omega), List.getElem?_map, List.getElem?_append_right (by omega), hk, Nat.sub_self]; rfl
    have HIP := Lib.hid (own_pop HIR.out hk)
    have HD1 := Lib.hid hd1
    obtain ⟨A, lv, hA, q0, hins⟩ := HH.out.at (k := u) (by omega)
    obtain rfl := hA
    replace q0 : wr.cell? (A.add u) = some lv := cell_later' (by rw [HG.out]; exact HB.out) q0
    rw [HLA.out u hun] at hins
    obtain ⟨lo, lc, rfl, -, -, -⟩ := id hins
    have HINS := Lib.hid hins
    have hol : (outs l (u : Int)).length ≤ 256 := Nat.le_trans (outs_len _ _) hl
    have e1 : (0 : Int) < ((k + 1 : Nat) : Int) := by omega
    have e2 : ((k + 1 : Nat) : Int) - 1 = (k : Int) := by omega
    have i0 : (0 : Int) ≤ (k : Int) := by omega
    have i1 : (k : Int) < ((k + 1 : Nat) : Int) := by omega
    have i2 : (0 : Int) ≤ (u : Int) := by omega
    have i3 : (u : Int) < (n : Int) := by omega
    have i4 : (k : Int) ≤ (ic : Int) := by omega
    clear HIR hd1 hins hu0 hu1 eio
    go_wp2
    have HM : Hid (meas I D + 1 ≤ meas I (D ++ [(u : Int)])) := Lib.hid (by unfold meas; rw [List.length_append]; simp; omega)
    have HM0 := Lib.hid hms
    obtain ⟨ol, hol2⟩ : ∃ ol, (outs l (u : Int)).length = ol := ⟨_, rfl⟩
    have HOL := Lib.hid hol2
    rw [hol2] at hol ⊢
    clear q0 hcu hms hol2
    go_loopw [6, 37] (fun ov iv wq => ∃ (j : Nat) (io : Option Addr) (ic : Nat) (C : List Int) (J : List Bool), iv = .int .i64 j ∧ ov = .slice io C.length ic ∧ j ≤ ol ∧ Irow wq (g + 1) (.slice io C.length ic) C ∧ Brow wq g g n J ∧ Dfs l n x J C u j ∧ meas J C ≤ meas I D ∧ Below g w wq) (fun _ iv _ => ol - (intOf iv).toNat)
    case atStart => exact ⟨0, _, _, D, I, rfl, by rw [hk], Nat.zero_le _, by rw [hk]; exact HIP.out, HROW.out, HD1.out, Nat.le_refl _, HB.out⟩
    case round =>
      obtain ⟨j, io, ic2, C, J, rfl, rfl, hj, hir, hrow, hdfs, hmj, hB⟩ := hrel
      rename World => wq
      have HIQ := Lib.hid hir
      have HRQ := Lib.hid hrow
      have HDQ := Lib.hid hdfs
      have HBQ := Lib.hid hB
      have hCl : C.length ≤ 200 := by have := HM.out; have := HM0.out; unfold meas at this hmj; unfold meas at *; omega
      clear hir hrow hdfs hB HIP HD1
      by_cases hjl : j < ol
      case neg =>
        obtain rfl : j = ol := by omega
        have e3 : ¬ (j : Int) < (j : Int) := by omega
        have HOV : Hid (Dfs l n x J C (-1) 0) := Lib.hid (HDQ.out.over' HOL.out)
        go_wp2
        go_roundw
        case rel => exact ⟨_, _, C, J, rfl, HIQ.out, HRQ.out, HOV.out, by have := HM.out; have := HM0.out; omega, HBQ.out⟩
        case measure =>
          rw [HF.out, falses_of HRQ.out]
          have := HM.out
          have e5 : (D ++ [(u : Int)]).length = k + 1 := hlk
          unfold meas at this hmj
          simp only [lenOf]
          omega
      have hjl2 : j < (outs l (u : Int)).length := by rw [HOL.out]; exact hjl
      obtain ⟨A2, rfl, p0⟩ := (HINS.out.keep (by rw [HG.out]; exact HBQ.out)).at hjl2
      obtain ⟨y, hy⟩ : ∃ y, (outs l (u : Int))[j] = y := ⟨_, rfl⟩
      have HY : Hid ((outs l (u : Int))[j]? = some y) := Lib.hid (by rw [List.getElem?_eq_getElem hjl2, hy])
      obtain ⟨y0, y1⟩ := outs_rng hok.out (by rw [← hy]; exact List.getElem_mem hjl2 : y ∈ outs l (u : Int))
      rw [hy] at p0
      obtain ⟨y, rfl⟩ := Int.eq_ofNat_of_zero_le y0
      have hyn : y < n := by omega
      have r0 := HRQ.out.at hyn
      have r1 := Frow.free HRQ.out y
      have e3 : (j : Int) < (ol : Int) := by omega
      have j0 : (0 : Int) ≤ (j : Int) := by omega
      have j2 : (0 : Int) ≤ (y : Int) := by omega
      have j3 : (y : Int) < (n : Int) := by omega
      clear hy hjl2
      cases hm : tpo.mk J y
      case true =>
        rw [hm] at r0
        have HN : Hid (Dfs l n x J C u (j + 1)) := Lib.hid (HDQ.out.seen HY.out (by rw [Int.toNat_natCast]; exact hm))
        clear hm
        go_wp2
        go_roundw
        case rel => exact ⟨j + 1, _, _, C, J, by go_num, rfl, by omega, HIQ.out, HRQ.out, HN.out, hmj, HBQ.out⟩
        case measure => simp [intOf]; omega
      rw [hm] at r0
      have HN : Hid (Dfs l n x (J.set y true) (C ++ [(y : Int)]) u (j + 1)) := Lib.hid (by have := HDQ.out.new hok.out (by omega) HY.out; rwa [Int.toNat_natCast] at this)
      have hmn := meas_new (I := J) (O := C) (y := (y : Int)) (by rw [Int.toNat_natCast, HRQ.out.1]; exact hyn) (by rw [Int.toNat_natCast]; exact hm)
      rw [Int.toNat_natCast] at hmn
      have HMN := Lib.hid hmn
      have HIX : Hid (Irow (wq.setCell ⟨g, y, none⟩ (.bool true)) (g + 1) (.slice io C.length ic2) C) := Lib.hid (ownsRow_setCell_below HIQ.out (by simp only; omega) _)
      have HRX : Hid (Brow (wq.setCell ⟨g, y, none⟩ (.bool true)) g g n (J.set y true)) := Lib.hid (Frow.put HRQ.out y true)
      have HBX : Hid (Below g w (wq.setCell ⟨g, y, none⟩ (.bool true))) := Lib.hid (HBQ.out.setCell (Nat.le_refl _) _)
      have hsx : g + 1 ≤ (wq.setCell ⟨g, y, none⟩ (.bool true)).heap.size := World.block_lt_of_cell? _ _ (HRX.out.at hyn)
      clear hm hmn HIQ HRQ HBQ
      go_wp2_with (at_builtin; refine app_in rfl (.tmp 49) (.tmp 51) rfl (g + 1) _ C (y : Int) wq.heap.size (by simp) rfl rfl HIX (by omega) hsx ?_; intro io6 ic6 w6 hrow6 hgrow6; have hb6 := (Below.refl (g + 1) _).grown hgrow6 hsx (fun q hq => (World.ownsRow.lt HIX.out q hq).1); have HI6 := Lib.hid hrow6; have HR6 : Hid (Brow w6 g g n (J.set y true)) := Lib.hid (HRX.out.grown HIX.out hgrow6 (by decide)); have HB6 := Lib.hid (HBX.out.trans (hb6.mono (by omega))); clear hgrow6 hb6 hrow6)
      have hl6 : (C ++ [(y : Int)]).length = C.length + 1 := by simp
      rw [← hl6] at HI6
      go_roundw
      case rel => exact ⟨j + 1, _, _, C ++ [(y : Int)], J.set y true, by go_num, by rw [hl6], by omega, HI6.out, HR6.out, HN.out, by have := HMN.out; omega, HB6.out⟩
      case measure => simp [intOf]; omega
end Go.Proofs.Ytncedgnpdojkkaa.tpo
