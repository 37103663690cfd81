/-
  What Grow of a fresh builder and strings.Join do. Conditions: at most 40 strings, a separator of 1 to 10 bytes, a result of at most 100000 bytes.
  What valueText, listText, listBehind and refText of the landed printer return. Conditions: short values; attributes and references as valid statements have them.
-/
import Derived.Test.YtmpjdlhigmofdaaMPb
import Derived.Lib.MakeNoZero
import Derived.Laws.IdiomCopy
import Derived.Test.YtmpjdlhigmofdaaMLb
import Derived.Test.YtmpjdlhigmofdaaMTn
import Derived.Test.YtmpjdlhigmofdaaTreAtt
import Derived.Deep.AppendLies
namespace Go.Proofs.Ytmpjdlhigmofdaa.prt
open Go.RowKit Go.Sort lex tre

section
variable {T : TypeId} {r : List Value}
theorem bd_room {w : World} {b : Nat} {cs : Array Value} {p : Value} (hT : T ≠ 5) (hb : w.heap[b]? = some (.cells (p :: .slice none 0 0 :: r).toArray T (0, 0))) (hm : cs.size ≤ maxLen) :
    BdP T r ((w.setCell ⟨b, 1, none⟩ (.slice (some ⟨w.heap.size, 0, none⟩) 0 cs.size)).alloc (.cells cs 5)) b p [] := by
  have hlt : b < w.heap.size := (Array.getElem?_eq_some_iff.1 hb).1
  obtain ⟨h1, _⟩ := bd_set hT hb (Byt.nil w b) 1 (.slice (some ⟨w.heap.size, 0, none⟩) 0 cs.size)
  have hz : (w.setCell ⟨b, 1, none⟩ (.slice (some ⟨w.heap.size, 0, none⟩) 0 cs.size)).heap.size = w.heap.size := by simp [World.setCell]
  have hn := heap_alloc_new (w.setCell ⟨b, 1, none⟩ (.slice (some ⟨w.heap.size, 0, none⟩) 0 cs.size)) (.cells cs 5)
  rw [hz] at hn
  exact ⟨_, by rw [Lib.alloc_old _ _ b (by omega), h1]; simp, ⟨rfl, Or.inr ⟨w.heap.size, cs.size, cs, rfl, Nat.le_of_lt hlt, hn, Nat.zero_le _, hm, by simp, by simp [Lib.byteCells]⟩⟩⟩
set_option maxRecDepth 100000 in
set_option maxHeartbeats 4000000 in
theorem grow_of (hT : T ≠ 5) (b n : Nat) (w : World) (p : Value) (hb : w.heap[b]? = some (.cells (p :: .slice none 0 0 :: r).toArray T (0, 0))) (hn : n ≤ 1000000) :
    Calls Try.prog 102 #[.pointer (some ⟨b, 0, none⟩), .int .i64 n] w fun e w' => e = .returned (.tuple #[]) ∧ BdP T r w' b p [] ∧ Fr b w w' := by
  obtain ⟨cs, hrun, hle, hmax⟩ := Lib.run_makeNoZero (P := Try.prog) w.drew #[3] 53 5 Try.underlying53 n (by omega)
  have hlt : b < w.heap.size := (Array.getElem?_eq_some_iff.1 hb).1
  have hw : IntKind.i64.wrap (IntKind.i64.wrap 0 + (n : Int)) = n := by
    rw [IntKind.wrap_i64, IntKind.wrap_i64]
    omega
  have hcall : (callFunc 110 #[.int .i64 (IntKind.i64.wrap (IntKind.i64.wrap 0 + (n : Int)))]).run Try.prog w.drew = .ok (.value (.slice (some ⟨w.drew.heap.size, 0, none⟩) n cs.size)) (w.drew.drew.drew.alloc (.cells cs 5)) := by
    rw [hw, run_callFunc_extern Try.func110 (by kernel_rfl) (by kernel_rfl) (by kernel_rfl) (e := Extern.BytealgMakeNoZero.makeNoZero #[3] #[53]) (by kernel_rfl), hrun]
    rfl
  have c1 : w.drew.cell? ⟨b, 1, none⟩ = some (.slice none 0 0) := by
    have h : w.drew.heap[b]? = _ := hb
    rw [Lib.cell_of_heap h]; rfl
  have hb2 : (w.alloc (.cells cs 5)).heap[b]? = _ := (Lib.alloc_old w _ b hlt).trans hb
  have c2 : (w.alloc (.cells cs 5)).cell? ⟨b, 1, none⟩ = some (.slice none 0 0) := by rw [Lib.cell_of_heap hb2]; rfl
  have f2 : (w.alloc (.cells cs 5)).frozen? ⟨b, 1, none⟩ = false := Lib.frozen_of_heap hb2 1
  have hcopy : ∀ W : World, (Builtin.copy_ #[53, 53] 3 #[.slice (some ⟨w.heap.size, 0, none⟩) 0 cs.size, .slice none 0 0]).run Try.prog W = .ok (goInt 0) W :=
    fun W => run_copy_none W 53 53 3 5 _ _ 0 cs.size 0 0 Try.underlying53 (by kernel_rfl) rfl
  have hfin := Lib.hid (bd_room hT hb (hmax (by unfold maxLen; omega)))
  have hfr : Hid (Fr b w ((w.setCell ⟨b, 1, none⟩ (.slice (some ⟨w.heap.size, 0, none⟩) 0 cs.size)).alloc (.cells cs 5))) := Lib.hid (((Fr.refl b w).set _ _).alloc (by simp [World.setCell]; omega) _)
  clear hw hb2 hb
  go_enter Try.func102, Try.ntmps102
  go_wp2_with fail
  go_region_held3 (fun w' => w'.cell? ⟨b, 1, none⟩ = some (.slice none 0 0)) (first | assumption | exact c1 | exact c2) (fail)
  all_goals (go_wp2; go_end0; exact ⟨rfl, hfin.out, hfr.out.drew.drew.drew⟩)
set_option maxRecDepth 100000 in
set_option maxHeartbeats 4000000 in
theorem growth_of (hT : BT T r.length) (b n : Nat) (w : World) (hb : Hid (w.heap[b]? = some (.cells (.pointer none :: .slice none 0 0 :: r).toArray T (0, 0)))) (hn : n ≤ 1000000) :
    Calls Try.prog 79 #[.pointer (some ⟨b, 0, none⟩), .int .i64 n] w fun e w' => e = .returned (.tuple #[]) ∧ Bd T r w' b [] ∧ Fr b w w' := by
  have hmx : Try.prog.follows .mixedOrders = true := by kernel_rfl
  have hcf := cc_fresh hT b w (by rw [Lib.cell_of_heap hb.out]; rfl) (by simp [World.shape?, hb.out]) (Lib.frozen_of_heap hb.out 0)
  have hb1 : (w.setCell ⟨b, 0, none⟩ (.pointer (some ⟨b, 0, none⟩))).heap[b]? = some (.cells (.pointer (some ⟨b, 0, none⟩) :: .slice none 0 0 :: r).toArray T (0, 0)) := by
    simp [World.setCell, Array.getElem?_modify, hb.out]
  have hf1 : Fr b w (w.setCell ⟨b, 0, none⟩ (.pointer (some ⟨b, 0, none⟩))) := (Fr.refl b w).set _ _
  obtain ⟨w1, hw1⟩ : ∃ w1, w.setCell ⟨b, 0, none⟩ (.pointer (some ⟨b, 0, none⟩)) = w1 := ⟨_, rfl⟩
  rw [hw1] at hcf hb1 hf1
  clear hw1
  have HCF := Lib.hid hcf
  clear hcf
  go_enter Try.func79, Try.ntmps79
  go_wp2_with (go_at_call 97; refine (HCF.out).mono ?_)
  rintro e w2 ⟨rfl, rfl⟩
  have c1 : w2.cell? ⟨b, 1, none⟩ = some (.slice none 0 0) := by rw [Lib.cell_of_heap hb1]; rfl
  have t1 := fun d os => cell_regrown c1 d os
  have HB := Lib.hid hb1
  clear c1 hb1
  go_wp2_with fail
  refine wp_region_quiet_below hmx (by kernel_rfl) ?_
  repeat (go_big_quiet_step (fail))
  refine wpQuiet_nil ?_
  intro _ hw'
  obtain ⟨⟨dq, osq⟩, hw''⟩ := hw'
  subst hw''
  have hbq := below_regrown w2 dq osq
  have hlt : b < w2.heap.size := (Array.getElem?_eq_some_iff.1 HB.out).1
  generalize grow (redrawn w2 dq) osq = w3 at hbq ⊢
  have hb3 : w3.heap[b]? = _ := (hbq.block b hlt).trans HB.out
  have hf3 := hf1.trans (Fr.of hbq (by omega))
  have HG := Lib.hid (grow_of hT.ne b n w3 _ hb3 hn)
  have hg0 : Bd T r w3 b [] := Or.inr ⟨_, hb3, Byt.nil _ _⟩
  have HG0 := Lib.hid hg0
  clear hb3 hg0 t1
  by_cases h0 : (0 : Int) < n
  · go_wp2_with (go_at_call 102; refine (HG.out).mono ?_; rintro e w4 ⟨rfl, h4, hf4⟩)
    go_end0
    exact ⟨rfl, Or.inr h4, hf3.trans hf4⟩
  · go_wp2
    go_end0
    exact ⟨rfl, HG0.out, hf3⟩
end
theorem lens_le (xs : List (List UInt8)) (k : Nat) : Lib.lens (xs.take k) ≤ Lib.lens xs := Lib.lens_take_le _ _
set_option maxRecDepth 100000 in
set_option maxHeartbeats 8000000 in
theorem sjoin_many (bk o c : Nat) (xs : List ByteArray) (sep Q : ByteArray) (w : World) (hcells : Hid (∀ (j : Nat) x, xs[j]? = some x → w.cell? ⟨bk, o + j, none⟩ = some (.string x))) (hbk : bk < w.heap.size)
    (h2 : 2 ≤ xs.length) (hN : xs.length ≤ 40) (hcap : xs.length ≤ c) (hs0 : 1 ≤ sep.size) (hs1 : sep.size ≤ 10) (hQ : Q.size ≤ 100000) (hq : Hid (Lib.join (xs.map (·.data.toList)) sep.data.toList = Q.data.toList)) :
    Calls Try.prog 43 #[.slice (some ⟨bk, o, none⟩) xs.length c, .string sep] w fun e w' => e = .returned (.string Q) ∧ Below w.heap.size w w' := by
  obtain ⟨x0, r, hxs⟩ : ∃ x0 r, xs = x0 :: r := by
    cases xs with
    | nil => simp at h2
    | cons a t => exact ⟨a, t, rfl⟩
  have hJ : sep.size * (xs.length - 1) + Lib.lens (xs.map (·.data.toList)) = Q.size := by
    have := Lib.join_length x0.data.toList (r.map (·.data.toList)) sep.data.toList
    rw [← b_size Q, ← hq.out, hxs]
    simp only [List.map_cons]
    rw [this, List.length_map, b_size, List.length_cons, Nat.add_sub_cancel]
  generalize hM : sep.size * (xs.length - 1) = M at hJ
  have hcast : ((xs.length : Int) - 1) = ((xs.length - 1 : Nat) : Int) := by omega
  have hdv : ¬ (9223372036854775807 / ((xs.length : Int) - 1) ≤ (sep.size : Int)) := by
    have h3 : ((xs.length : Int) - 1) ≤ 39 := by omega
    have h4 : 0 < ((xs.length : Int) - 1) := by omega
    have h5 : (11 : Int) ≤ 9223372036854775807 / ((xs.length : Int) - 1) := by
      rw [Int.le_ediv_iff_mul_le h4]; omega
    omega
  have hprod : wrap64 ((sep.size : Int) * ((xs.length : Int) - 1)) = (M : Int) := by
    have e : (sep.size : Int) * ((xs.length - 1 : Nat) : Int) = ((sep.size * (xs.length - 1) : Nat) : Int) := IntWalk.up_mul rfl rfl
    rw [hcast, e, hM]
    exact IntWalk.wrap64_in _ ⟨by omega, by omega⟩
  have hne0 : ((xs.length : Int) == 0) = false := beq_eq_false_iff_ne.2 (by omega)
  have hne1 : ((xs.length : Int) == 1) = false := beq_eq_false_iff_ne.2 (by omega)
  have hsp : (0 : Int) < (sep.size : Int) := by omega
  have HXS := Lib.hid hxs
  have HJ := Lib.hid hJ
  have hMb : M ≤ 100000 := by omega
  clear hxs hJ hcast hM
  go_enter Try.func43, Try.ntmps43
  go_wp2_with fail
  go_loop [5, 41] (fun n i => ∃ k : Nat, k ≤ xs.length ∧ i = .int .i64 k ∧ n = .int .i64 ((M + Lib.lens ((xs.map (·.data.toList)).take k) : Nat) : Int)) (fun _ i => xs.length - (intOf i).toNat)
  case atStart => exact ⟨0, Nat.zero_le _, rfl, by simp [Lib.lens]⟩
  case round =>
    obtain ⟨k, hk, rfl, rfl⟩ := hrel
    by_cases hkn : k < xs.length
    · obtain ⟨x, hx⟩ : ∃ x, xs[k]? = some x := ⟨xs[k], List.getElem?_eq_getElem hkn⟩
      have hc := hcells.out k x hx
      have hstep := Lib.lens_take_succ (xs.map (·.data.toList)) k x.data.toList (by simp [hx])
      have hbound := lens_le (xs.map (·.data.toList)) (k + 1)
      have hJ2 := HJ.out
      rw [b_size] at hstep
      generalize hA1 : Lib.lens ((xs.map (·.data.toList)).take (k + 1)) = A1 at hstep hbound
      generalize Lib.lens ((xs.map (·.data.toList)).take k) = A0 at hstep
      have HA1 := Lib.hid hA1
      have hA0b : A0 ≤ 100000 := by omega
      have hA1b : A0 + x.size ≤ 100000 := by omega
      have hA1e := Lib.hid hstep
      clear hA1 hbound hJ2 hstep
      go_wp2
      go_round
      case rel => exact ⟨k + 1, by omega, by go_num, by rw [HA1.out, hA1e.out]; refine congrArg _ ?_; omega⟩
      case measure => simp [intOf]; omega
    · obtain rfl : k = xs.length := by omega
      have hall : (xs.map (·.data.toList)).take xs.length = xs.map (·.data.toList) := List.take_of_length_le (by simp)
      rw [hall]
      have hMT : ((M + Lib.lens (xs.map (·.data.toList)) : Nat) : Int) = (Q.size : Int) := by rw [HJ.out]
      rw [hMT]
      clear hall hMT
      go_wp2_with fail
      refine (growth_of bt_builder w.heap.size Q.size _ (Lib.hid (heap_alloc_new w _)) (by omega)).mono ?_
      rintro e w1 ⟨rfl, h1, hf1⟩
      have hb1 : Below w.heap.size w w1 := ((Below.refl w.heap.size w).alloc (Nat.le_refl _) _).trans hf1.1
      have hx0 : xs[0]? = some x0 := by rw [HXS.out]; rfl
      have hc0 : w1.cell? ⟨bk, o, none⟩ = some (.string x0) := by
        rw [hb1.cell (p := ⟨bk, o, none⟩) hbk]
        exact hcells.out 0 x0 hx0
      have H1 := Lib.hid h1
      have HB1 := Lib.hid hb1
      have hwhole : Q.data.toList = x0.data.toList ++ Lib.joinTail sep.data.toList (r.map (·.data.toList)) := by
        rw [← hq.out, HXS.out, List.map_cons, Lib.join_cons]
      have hCle : ∀ k, (x0.data.toList ++ Lib.joinTail sep.data.toList ((r.map (·.data.toList)).take k)).length ≤ 100000 := fun k => by
        have h1 := congrArg List.length hwhole
        rw [b_size, List.length_append] at h1
        have h2 := Lib.joinTail_take_le sep.data.toList (r.map (·.data.toList)) k
        rw [List.length_append]
        omega
      have HCLE := Lib.hid hCle
      have HWH := Lib.hid hwhole
      have hx0s : x0.size ≤ 100000 := by have := hCle 0; rw [List.length_append, b_size] at this; omega
      clear h1 hf1 hb1 hx0 hCle hwhole
      go_wp2_with fail
      refine (wstr_of bt_builder w.heap.size [] x0 w1 H1 (by simp; omega)).mono ?_
      rintro e w2 ⟨rfl, h2', hf2⟩
      have H2 : Hid (Bd 55 [] w2 w.heap.size (x0.data.toList ++ Lib.joinTail sep.data.toList ((r.map (·.data.toList)).take 0))) := Lib.hid (by simpa [Lib.joinTail] using h2')
      have HB2 := Lib.hid (HB1.out.trans hf2.1)
      have hrl : r.length = xs.length - 1 := by rw [HXS.out]; simp
      clear h2' hf2 HB1 H1 hc0
      go_wp2_with fail
      go_loopw [65] (fun i wr => ∃ k : Nat, k ≤ r.length ∧ i = .int .i64 k ∧ Hid (Bd 55 [] wr w.heap.size (x0.data.toList ++ Lib.joinTail sep.data.toList ((r.map (·.data.toList)).take k))) ∧ Hid (Below w.heap.size w wr)) (fun i _ => r.length - (intOf i).toNat)
      case atStart => exact ⟨0, Nat.zero_le _, rfl, H2, HB2⟩
      case round =>
        obtain ⟨k, hk', rfl, HB, HW⟩ := hrel
        rename World => wr
        by_cases hkr : k < r.length
        · obtain ⟨y, hy⟩ : ∃ y, r[k]? = some y := ⟨r[k], List.getElem?_eq_getElem hkr⟩
          have hxy : xs[k + 1]? = some y := by rw [HXS.out]; simpa using hy
          have hcy : wr.cell? ⟨bk, o + 1 + k, none⟩ = some (.string y) := by
            rw [HW.out.cell (p := ⟨bk, o + 1 + k, none⟩) hbk, show o + 1 + k = o + (k + 1) by omega]
            exact hcells.out (k + 1) y hxy
          have hts := Lib.joinTail_take_succ sep.data.toList (r.map (·.data.toList)) k y.data.toList (by simp [hy])
          have hl1 := HCLE.out (k + 1)
          rw [hts] at hl1
          simp only [List.length_append, b_size] at hl1
          have HN : Hid (x0.data.toList ++ Lib.joinTail sep.data.toList ((r.map (·.data.toList)).take k) ++ sep.data.toList ++ y.data.toList = x0.data.toList ++ Lib.joinTail sep.data.toList ((r.map (·.data.toList)).take (k + 1))) := Lib.hid (by rw [hts]; simp)
          have hl0 : (x0.data.toList ++ Lib.joinTail sep.data.toList ((r.map (·.data.toList)).take k)).length = x0.size + (Lib.joinTail sep.data.toList ((r.map (·.data.toList)).take k)).length := by rw [List.length_append, b_size]
          generalize x0.data.toList ++ Lib.joinTail sep.data.toList ((r.map (·.data.toList)).take k) = acc at HB HN hl0
          generalize (Lib.joinTail sep.data.toList ((r.map (·.data.toList)).take k)).length = J at hl0 hl1
          have hl2 : acc.length + sep.size + y.size ≤ 100000 := by omega
          clear hxy hy hts hl1 hl0
          go_wp2_with fail
          refine (wstr_of bt_builder w.heap.size acc sep wr HB (by omega)).mono ?_
          rintro e w3 ⟨rfl, h3, hf3⟩
          have H3 := Lib.hid h3
          have HB3 := Lib.hid (HW.out.trans hf3.1)
          clear h3 hf3
          go_wp2_with fail
          refine (wstr_of bt_builder w.heap.size (acc ++ sep.data.toList) y w3 H3 (by rw [List.length_append, b_size]; omega)).mono ?_
          rintro e w4 ⟨rfl, h4, hf4⟩
          rw [HN.out] at h4
          have H4 := Lib.hid h4
          have HB4 := Lib.hid (HB3.out.trans hf4.1)
          clear h4 hf4
          go_wp2
          go_roundw
          case rel => exact ⟨k + 1, by omega, by go_num, H4, HB4⟩
          case measure => simp [intOf]; omega
        · obtain rfl : k = r.length := by omega
          have hfull : (r.map (·.data.toList)).take r.length = r.map (·.data.toList) := List.take_of_length_le (by simp)
          have hB := HB.out
          rw [hfull, ← HWH.out] at hB
          have HBQ := Lib.hid hB
          have hQ1 : 0 < Q.size := by
            have h5 : xs.length - 1 ≠ 0 := by omega
            have h6 := Lib.join_length x0.data.toList (r.map (·.data.toList)) sep.data.toList
            have h7 := congrArg List.length HWH.out
            rw [← Lib.join_cons, h6, List.length_map, b_size, b_size, hrl] at h7
            have h8 : 1 ≤ sep.size * (xs.length - 1) := Nat.mul_pos hs0 (by omega)
            omega
          have hQn : Q.data.toList ≠ [] := by intro e; rw [← b_size, e] at hQ1; simp at hQ1
          clear hB hfull HB hQ1
          go_wp2_with fail
          refine (wtext_of w.heap.size Q.data.toList wr HBQ hQn).mono ?_
          rintro e w5 ⟨rfl, hb5⟩
          have HB5 := Lib.hid (HW.out.trans hb5)
          clear hb5
          go_wp2
          go_ret
          exact ⟨ret_str (ba_eq (by simp)), HB5.out⟩
end Go.Proofs.Ytmpjdlhigmofdaa.prt
namespace Go.Proofs.Ytmpjdlhigmofdaa.prt
open Go.RowKit Go.Sort lex tre

theorem cparse_of (s : ByteArray) (v : Value) (w : World) (hs : s.size ≤ 20000) (hv : Hid (parseV s.data.toList = v)) :
    Calls Try.prog 77 #[.string s] w fun e w' => e = .returned v ∧ w = w' := by rw [← hv.out]; exact parse_any s w (by omega)
set_option maxHeartbeats 2000000 in
theorem cvalue_of (s Q : ByteArray) (w : World) (hs : s.size ≤ 32) (hp : Hid (s.data.toList.all isPl = true)) (hq : Hid (valS prL s.data.toList = Q.data.toList)) :
    Calls Try.prog 42 #[.string s] w fun e w' => e = .returned (.string Q) ∧ Below w.heap.size w w' := by
  have hm : s.size ≤ maxLen := by unfold maxLen; omega
  have hr := hq.out
  unfold valS at hr
  obtain ⟨n, hn⟩ : ∃ b, isNm s.data.toList = b := ⟨_, rfl⟩
  have HN := Lib.hid hn
  rw [hn] at hr
  obtain ⟨pn, pe, hpe⟩ : ∃ a b, prL s.data.toList = (a, b) := ⟨_, _, rfl⟩
  have HP : Hid (parseV s.data.toList = .tuple #[.int .i64 pn, .int .i64 pe]) := Lib.hid (by rw [parseV_pr, hpe])
  rw [hpe] at hr
  simp only at hr
  clear hn hq hpe
  by_cases h0 : pe = 0
  · subst h0
    have HE : Hid (s = Q) := Lib.hid (ba_eq (by cases n <;> simpa using hr))
    clear hr hp
    go_enter Try.func42, Try.ntmps42
    go_wp2_with (first | (go_at_call 77; refine (cparse_of _ _ _ (by omega) HP).mono ?_; rintro e w' ⟨rfl, rfl⟩))
    go_ret
    exact ⟨ret_str HE.out, Below.refl _ _⟩
  · have b0 : (pe == 0) = false := by rw [beq_eq_false_iff_ne]; exact h0
    cases n
    · rw [if_neg Bool.false_ne_true, if_neg h0] at hr
      have HQ : Hid (quoE s.data.toList = (quoL s.data.toList, 0)) := Lib.hid (by unfold quoE; rw [size_list, if_neg (by omega), if_pos hp.out])
      have HE : Hid (ba (quoL s.data.toList) = Q) := Lib.hid (ba_eq (by rw [← hr]))
      clear hr h0 hp
      go_enter Try.func42, Try.ntmps42
      go_wp2_with (first | (go_at_call 77; refine (cparse_of _ _ _ (by omega) HP).mono ?_; rintro e w' ⟨rfl, rfl⟩) | (go_at_call 34; refine (isname_of _ _ _ hm HN).mono ?_; rintro e w2 ⟨rfl, hb2⟩) | (go_at_call 78; refine (quote_any _ _ _ _ hm HQ).mono ?_; rintro e w3 ⟨rfl, hb3⟩))
      go_ret
      exact ⟨ret_str HE.out, below_keep hb3 hb2⟩
    · rw [if_pos rfl] at hr
      have HE : Hid (s = Q) := Lib.hid (ba_eq hr)
      clear hr h0 hp
      go_enter Try.func42, Try.ntmps42
      go_wp2_with (first | (go_at_call 77; refine (cparse_of _ _ _ (by omega) HP).mono ?_; rintro e w' ⟨rfl, rfl⟩) | (go_at_call 34; refine (isname_of _ _ _ hm HN).mono ?_; rintro e w2 ⟨rfl, hb2⟩))
      go_ret
      exact ⟨ret_str HE.out, hb2⟩
set_option maxHeartbeats 2000000 in
/-- Join of a row of texts. -/
theorem sjoin_row (C : List (List UInt8)) (B : Nat) (v : Value) (sep Q : ByteArray) (w : World) (h : Hid (Nrow w B v C)) (hN : C.length ≤ 40) (hs0 : 1 ≤ sep.size) (hs1 : sep.size ≤ 10) (hQ : Q.size ≤ 100000) (hq : Hid (Lib.join C sep.data.toList = Q.data.toList)) :
    Calls Try.prog 43 #[v, .string sep] w fun e w' => e = .returned (.string Q) ∧ Below w.heap.size w w' := by
  rcases h.out.2 with ⟨rfl, hz⟩ | ⟨g, cap, cur, rfl, hg, hc, hcap, hm, h3⟩
  · obtain rfl : C = [] := List.eq_nil_of_length_eq_zero hz
    have HE : Hid ((⟨#[]⟩ : ByteArray) = Q) := Lib.hid (ba_eq (by rw [← hq.out]; rfl))
    clear h hq hz hs0 hs1
    go_enter Try.func43, Try.ntmps43
    go_wp2
    go_ret
    exact ⟨ret_str HE.out, Below.refl _ _⟩
  have hcl := World.ownsRow.cells h.out (g := g) rfl
  have hcells : ∀ (j : Nat) x, (C.map bb)[j]? = some x → w.cell? ⟨g, 0 + j, none⟩ = some (.string x) := by
    intro j x hx
    have hy : (nmC C)[j]? = some (.string x) := by
      unfold nmC
      rw [List.getElem?_map] at hx ⊢
      cases e : C[j]? with
      | none => rw [e] at hx; cases hx
      | some y => rw [e] at hx; rw [← Option.some.inj hx]; rfl
    have := hcl j (.string x) hy
    rw [Nat.zero_add]
    rw [show ((⟨g, 0, none⟩ : Addr).add j) = ⟨g, j, none⟩ by unfold Addr.add; split <;> simp_all] at this
    exact this
  have hmap : (C.map bb).map (·.data.toList) = C := by rw [List.map_map]; exact (List.map_congr_left (fun x _ => rfl)).trans (List.map_id C)
  have hlen : (C.map bb).length = C.length := List.length_map _
  have hlt : g < w.heap.size := (Array.getElem?_eq_some_iff.1 hc).1
  rcases Nat.lt_or_ge C.length 2 with h2 | h2
  · rcases Nat.eq_zero_or_pos C.length with h0 | h0
    · obtain rfl : C = [] := List.eq_nil_of_length_eq_zero h0
      have HE : Hid ((⟨#[]⟩ : ByteArray) = Q) := Lib.hid (ba_eq (by rw [← hq.out]; rfl))
      clear h hq hs0 hs1 hcl hcells hmap hlen h3 hc hcap hm h2 h0
      go_enter Try.func43, Try.ntmps43
      go_wp2
      go_ret
      exact ⟨ret_str HE.out, Below.refl _ _⟩
    · obtain ⟨x, rfl⟩ : ∃ x, C = [x] := by
        match C, h0, h2 with
        | [x], _, _ => exact ⟨x, rfl⟩
      obtain ⟨X, hX⟩ : ∃ X, bb x = X := ⟨_, rfl⟩
      have c0 : w.cell? ⟨g, 0, none⟩ = some (.string X) := hcells 0 X (by simp [hX])
      have HE : Hid (X = Q) := Lib.hid (ba_eq (by rw [← hq.out, Lib.join_one, ← hX]))
      clear h hq hs0 hs1 hcl hcells hmap hlen h3 hc hcap hm h2 h0 hX
      go_enter Try.func43, Try.ntmps43
      go_wp2
      go_ret
      exact ⟨ret_str HE.out, Below.refl _ _⟩
  · have := sjoin_many g 0 cap (C.map bb) sep Q w (Lib.hid hcells) hlt (by omega) (by omega) (by omega) hs0 hs1 hQ (Lib.hid (by rw [hmap]; exact hq.out))
    rwa [hlen] at this
theorem nmC_app (C : List (List UInt8)) (x : List UInt8) : nmC (C ++ [x]) = nmC C ++ [.string (bb x)] := by unfold nmC; rw [List.map_append]; rfl
theorem nrow_keep {w w' : World} {B : Nat} {v : Value} {C : List (List UInt8)} (h : Nrow w B v C) (hb : Below w.heap.size w w') : Nrow w' B v C := own_keep h hb
theorem row_drew {w : World} {B : Nat} {v : Value} {C : List (List UInt8)} (h : Nrow w B v C) : Nrow w.drew B v C := h
theorem row_alloc {w : World} {B : Nat} {v : Value} {C : List (List UInt8)} (o : Obj) (h : Nrow w B v C) : Nrow (w.alloc o) B v C := World.ownsRow.alloc h o
theorem info_str : ∃ i, Try.prog.info? 9 = some i ∧ i.zero = some (.string ⟨#[]⟩) ∧ i.size = 1 ∧ i.bytes = 16 := by
  have h : (Try.prog.info? 9).map (fun i => (i.zero, i.size, i.bytes)) = some (some (.string ⟨#[]⟩), 1, 16) := by kernel_rfl
  cases hq : Try.prog.info? 9 with
  | none => rw [hq] at h; cases h
  | some i =>
    rw [hq] at h
    simp only [Option.map_some, Option.some.injEq, Prod.mk.injEq] at h
    exact ⟨i, rfl, h.1, h.2.1, h.2.2⟩
/-- Two strings in a block of their own, from world to world. -/
theorem s2_drew {w : World} {k : Nat} {X Y : ByteArray} (h : w.cell? ⟨k, 0, none⟩ = some (.string X) ∧ w.cell? ⟨k, 1, none⟩ = some (.string Y)) : w.drew.cell? ⟨k, 0, none⟩ = some (.string X) ∧ w.drew.cell? ⟨k, 1, none⟩ = some (.string Y) := h
theorem s2_keep {w w' : World} {k : Nat} {X Y : ByteArray} (h : w.cell? ⟨k, 0, none⟩ = some (.string X) ∧ w.cell? ⟨k, 1, none⟩ = some (.string Y)) (hb : Below w.heap.size w w') : w'.cell? ⟨k, 0, none⟩ = some (.string X) ∧ w'.cell? ⟨k, 1, none⟩ = some (.string Y) := ⟨cell_keep hb h.1, cell_keep hb h.2⟩
theorem s2_alloc {w : World} {o : Obj} {k : Nat} {X Y : ByteArray} (h : w.cell? ⟨k, 0, none⟩ = some (.string X) ∧ w.cell? ⟨k, 1, none⟩ = some (.string Y)) : (w.alloc o).cell? ⟨k, 0, none⟩ = some (.string X) ∧ (w.alloc o).cell? ⟨k, 1, none⟩ = some (.string Y) := s2_keep h (al1 ..)
set_option maxRecDepth 100000 in
set_option maxHeartbeats 4000000 in
theorem clist_of (l : List Pr) (v : Value) (Q : ByteArray) (w : World) (h : Hid (Prs w v l)) (hl : l.length ≤ 40) (ho : Hid (attOk l)) (hq : Hid (91 :: (attJ l ++ [93]) = Q.data.toList)) :
    Calls Try.prog 25 #[v] w fun e w' => e = .returned (.string Q) ∧ Below w.heap.size w w' := by
  have hmx : Try.prog.follows .mixedOrders = true := by kernel_rfl
  obtain ⟨i0, hi0, hz0, hz1, hz2⟩ := info_str
  obtain ⟨ao, cap, rfl, -, -, -⟩ := id h.out
  go_enter Try.func25, Try.ntmps25
  go_wp2_with fail
  go_loopw [3, 8] (fun u i wr => ∃ (k : Nat) (ro : Option Addr) (rn rc : Nat), k ≤ l.length ∧ i = .int .i64 k ∧ u = .slice ro rn rc ∧ Nrow wr w.heap.size (.slice ro rn rc) ((l.take k).map (attB prL)) ∧ Below w.heap.size w wr) (fun _ i _ => l.length - (intOf i).toNat)
  case atStart => exact ⟨0, none, 0, 0, Nat.zero_le _, rfl, rfl, World.ownsRow_nil _ _ _ _, Below.refl _ _⟩
  case round =>
    obtain ⟨k, ro, rn, rc, hk, rfl, rfl, hrow, hB⟩ := hrel
    rename World => wr
    have HR := Lib.hid hrow
    have hsw := hB.size
    clear hrow
    by_cases hlt : k < l.length
    · obtain ⟨A, rfl, p0, p1, z2, z3⟩ := (h.out.keep hB).get hlt
      have hat := ho.out _ (List.getElem_mem hlt)
      have HTK := Lib.hid (take_pr hlt)
      obtain ⟨C, hC⟩ : ∃ C, (l.take k).map (attB prL) = C := ⟨_, rfl⟩
      have hCl : C.length = k := by rw [← hC, List.length_map, List.length_take]; omega
      have HCE := Lib.hid hC
      rw [hC] at HR
      obtain ⟨x, hx⟩ : ∃ x, l[k] = x := ⟨_, rfl⟩
      rw [hx] at p0 p1 z2 z3 hat HTK
      clear hx hC
      have s16 := nm_le hat.1
      obtain ⟨X, hX⟩ : ∃ Y, bb x.1 = Y := ⟨_, rfl⟩
      obtain ⟨Y, hY⟩ : ∃ Y, bb x.2 = Y := ⟨_, rfl⟩
      obtain ⟨V, hV⟩ : ∃ V, bb (valS prL x.2) = V := ⟨_, rfl⟩
      have d1 : X.data.toList = x.1 := by rw [← hX]
      have d2 : Y.data.toList = x.2 := by rw [← hY]
      have d3 : V.data.toList = valS prL x.2 := by rw [← hV]
      have s1 : X.size ≤ 16 := by rw [← b_size, d1]; exact s16
      have s2 : Y.size ≤ 32 := by rw [← b_size, d2]; exact hat.2.1
      have s3 : V.size ≤ 66 := by rw [← b_size, d3]; exact val_len hat.2.1
      rw [hX] at p0
      rw [hY] at p1
      have HP : Hid (Y.data.toList.all isPl = true) := Lib.hid (by rw [d2]; exact hat.2.2)
      have HV : Hid (valS prL Y.data.toList = V.data.toList) := Lib.hid (by rw [d2, d3])
      have HA : Hid (bb (attB prL x) = X ++ ⟨#[61]⟩ ++ V) := Lib.hid (ba_eq (by simp [d1, d3, attB]))
      have HN : Hid ((l.take (k + 1)).map (attB prL) = C ++ [attB prL x]) := Lib.hid (by rw [HTK.out, List.map_append, HCE.out]; rfl)
      have z0 : (0 : Int) ≤ (k : Int) := by omega
      have z1 : (k : Int) < (l.length : Int) := by omega
      clear hat s16 hX hY hV d1 d2 d3 z2 z3 HTK HCE
      obtain ⟨v0, v1⟩ := at2_str wr X Y 30
      have hB1 := below_keep (al1 wr (.cells #[.string X, .string Y] 30)) hB
      have HO1 := Lib.hid (row_alloc (.cells #[.string X, .string Y] 30) HR.out)
      have hb1 := heap_alloc_new wr (.cells #[.string X, .string Y] 30)
      have hfa : (Value.slice ro rn rc).ownBlock ≠ some wr.heap.size := Lib.ownBlock_ne HO1.out hb1 (by decide)
      have hklt : wr.heap.size < (wr.alloc (.cells #[.string X, .string Y] 30)).heap.size := by simp
      have HFA := Lib.hid hfa
      clear hB hb1 HR hfa
      go_wp2_with fail
      generalize wr.alloc (.cells #[.string X, .string Y] 30) = w1 at *
      have g1 : ¬ (9223372036854775807 < X.size + 1) := by omega
      have g2 : ¬ (9223372036854775807 < X.size + 1 + V.size) := by omega
      have hP0 : w1.cell? ⟨wr.heap.size, 0, none⟩ = some (.string X) ∧ w1.cell? ⟨wr.heap.size, 1, none⟩ = some (.string Y) := ⟨v0, v1⟩
      clear p0 p1 v0 v1
      go_region_held3 (fun w' => w'.cell? ⟨wr.heap.size, 0, none⟩ = some (.string X) ∧ w'.cell? ⟨wr.heap.size, 1, none⟩ = some (.string Y))
        (first | assumption | (with_reducible refine s2_drew ?_; assumption) | (with_reducible refine s2_alloc ?_; assumption))
        (first
        | (go_at_call 42; (with_reducible refine (cvalue_of Y V _ s2 HP HV).mono ?_); rintro e w6 ⟨rfl, hb6⟩; have hS6 := s2_keep (by assumption) hb6; have hb16 : Below w1.heap.size w1 w6 := below_keep hb6 (by repeat (first | (with_reducible exact Below.refl _ _) | (with_reducible refine b_drew ?_))); have HO6 := Lib.hid (nrow_keep HO1.out hb16); have hs16 := hb16.size)
        | (refine step_append_lies _ (by rfl) _ _ _ (by rfl) w.heap.size 9 i0 _ 1 16 Try.underlying37 hi0 hz0 hz1 hz2 rfl (by omega) (.slice ro rn rc) C.length (nmC C) (by rfl) (by exact World.ownsRow.alloc HO6.out _) ⟨w6.heap.size, 0, none⟩ 1 1 [.string (X ++ ⟨#[61]⟩ ++ V)] (by rfl) (by rfl) (by exact World.news_of_block (cs := #[.string (X ++ ⟨#[61]⟩ ++ V)]) (t := 9) (fr := (0, 0)) (heap_alloc_new _ _)) (by simp [Value.oneCell']) (by omega) (by unfold maxLen; omega) (by omega) (by simp; omega) (w6.heap.size + 1) (by simp) ?_; intro gg cap7 w7 hown7 hgrow hat hlt7; have hS7 : w7.cell? ⟨wr.heap.size, 0, none⟩ = some (.string X) ∧ w7.cell? ⟨wr.heap.size, 1, none⟩ = some (.string Y) := ⟨(by rw [hgrow.cell_far _ (by simp; omega) (Ne.symm HFA.out)]; exact (s2_alloc hS6).1), (by rw [hgrow.cell_far _ (by simp; omega) (Ne.symm HFA.out)]; exact (s2_alloc hS6).2)⟩))
      all_goals
        have hB7 := (below_keep (al1 ..) (below_keep hb16 hB1)).grown hgrow (by simp; omega) (fun q hq => (World.ownsRow.lt HO6.out q hq).1)
        have hrow7 : Nrow w7 w.heap.size (.slice (some ⟨gg, 0, none⟩) (C.length + 1) cap7) ((l.take (k + 1)).map (attB prL)) := by
          unfold Nrow
          rw [HN.out, nmC_app, List.length_append, HA.out]
          exact hown7
        rw [hCl] at hrow7
        have HR7 := Lib.hid hrow7
        clear hgrow hat hlt7 hown7 hrow7 g1 g2
        go_wp2
        go_roundw
        case rel => exact ⟨k + 1, _, _, _, by omega, by go_num, rfl, HR7.out, hB7⟩
        case measure => simp [intOf]; omega
    · obtain rfl : k = l.length := by omega
      obtain ⟨J, hJ⟩ : ∃ J, bb (attJ l) = J := ⟨_, rfl⟩
      have HJ : Hid (Lib.join (l.map (attB prL)) (⟨#[44, 32]⟩ : ByteArray).data.toList = J.data.toList) := Lib.hid (by rw [← hJ]; rfl)
      have hJs : J.size ≤ 4000 := by rw [← b_size, ← hJ]; have := attJ_len ho.out; simp only; omega
      have HE : Hid (⟨#[91]⟩ ++ J ++ ⟨#[93]⟩ = Q) := Lib.hid (ba_eq (by rw [← hq.out, ← hJ]; simp))
      have HRR : Hid (Nrow wr w.heap.size (.slice ro rn rc) (l.map (attB prL))) := Lib.hid (by have := HR.out; rwa [List.take_length] at this)
      have hml : (l.map (attB prL)).length ≤ 40 := by rw [List.length_map]; exact hl
      clear hJ hq HR
      go_wp2_with (go_at_call 43; refine (sjoin_row (l.map (attB prL)) w.heap.size _ ⟨#[44, 32]⟩ J _ HRR hml (by decide) (by decide) (by omega) HJ).mono ?_; rintro e w2 ⟨rfl, hb2⟩)
      go_ret
      exact ⟨ret_str HE.out, below_keep hb2 hB⟩
theorem list_eq (l : List Pr) : (91 :: (attJ l ++ [93])) = if l.isEmpty then [91, 93] else attS prL l := by
  cases l with
  | nil => rfl
  | cons a t => rw [if_neg (by simp), attS_join (by simp)]
set_option maxHeartbeats 2000000 in
theorem cbehind_of (l : List Pr) (v : Value) (Q : ByteArray) (w : World) (h : Hid (Prs w v l)) (hl : l.length ≤ 40) (ho : Hid (attOk l)) (hq : Hid (aft prL l = Q.data.toList)) :
    Calls Try.prog 98 #[v] w fun e w' => e = .returned (.string Q) ∧ Below w.heap.size w w' := by
  obtain ⟨ao, cap, rfl, -, -, -⟩ := id h.out
  have hr := hq.out
  unfold aft at hr
  rcases Nat.eq_zero_or_pos l.length with h0 | h0
  · obtain rfl : l = [] := List.length_eq_zero_iff.1 h0
    have HE : Hid ((⟨#[]⟩ : ByteArray) = Q) := Lib.hid (ba_eq (by rw [← hr]; rfl))
    clear h hl ho hq h0 hr
    go_enter Try.func98, Try.ntmps98
    go_wp2
    go_ret
    exact ⟨ret_str HE.out, Below.refl _ _⟩
  · have hne : l ≠ [] := by intro e; rw [e] at h0; simp at h0
    rw [if_neg (by cases l <;> simp at h0 ⊢)] at hr
    obtain ⟨L, hL⟩ : ∃ L, bb (attS prL l) = L := ⟨_, rfl⟩
    have HL : Hid (91 :: (attJ l ++ [93]) = L.data.toList) := Lib.hid (by rw [← attS_join hne, ← hL])
    have hls : L.size ≤ 4000 := by rw [← b_size, ← hL]; have := attS_len ho.out; simp only; omega
    have HE : Hid ((⟨#[32]⟩ : ByteArray) ++ L = Q) := Lib.hid (ba_eq (by rw [← hr, ba_add, ← hL]; rfl))
    have b0 : ((l.length : Int) == 0) = false := by rw [beq_eq_false_iff_ne]; omega
    clear hL hq h0 hr hne
    go_enter Try.func98, Try.ntmps98
    go_wp2_with (go_at_call 25; refine (clist_of l _ L _ h hl ho HL).mono ?_; rintro e w1 ⟨rfl, hb1⟩)
    go_ret
    exact ⟨ret_str HE.out, hb1⟩
set_option maxHeartbeats 2000000 in
theorem cref_of (X Y : ByteArray) (w : World) (hx : X.size ≤ 16) (hy : Y.size ≤ 16) (Q : ByteArray) (hq : Hid (X.data.toList ++ prtP Y.data.toList = Q.data.toList)) :
    Calls Try.prog 99 #[.agg #[.string X, .string Y]] w fun e w' => e = .returned (.string Q) ∧ Below w.heap.size w w' := by
  obtain ⟨v0, v1⟩ := at2_str w X Y 51
  have hB := al1 w (.cells #[.string X, .string Y] 51)
  obtain ⟨pe, hpe⟩ : ∃ e, Y.toList.isEmpty = e := ⟨_, rfl⟩
  have hr := hq.out
  cases pe
  · have b1 : (Y.toList == []) = false := by cases h : Y.toList <;> simp_all
    rw [prt_str.2 hpe] at hr
    have HE : Hid (X ++ ⟨#[58]⟩ ++ Y = Q) := Lib.hid (ba_eq (by rw [← hr]; simp))
    clear hr hq hpe
    go_enter Try.func99, Try.ntmps99
    go_wp2
    go_ret
    exact ⟨ret_str HE.out, hB⟩
  · have b1 : (Y.toList == []) = true := by cases h : Y.toList <;> simp_all
    rw [prt_str.1 hpe] at hr
    have HE : Hid (X = Q) := Lib.hid (ba_eq (by rw [← hr]; simp))
    clear hr hq hpe
    go_enter Try.func99, Try.ntmps99
    go_wp2
    go_ret
    exact ⟨ret_str HE.out, hB⟩
end Go.Proofs.Ytmpjdlhigmofdaa.prt
