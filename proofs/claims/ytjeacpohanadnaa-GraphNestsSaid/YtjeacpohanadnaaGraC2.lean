/-
  What Find of the landed graph returns, and slices.ContainsFunc at ports and at clusters with the closures that compare a name. Condition: lists in memory.
-/
import Derived.Test.YtjeacpohanadnaaGraC1
import Derived.Test.YtjeacpohanadnaaMGe
import Derived.Lib.QuietBelow
namespace Go.Proofs.Ytjeacpohanadnaa.gra
open Go.RowKit lex

theorem any_take {X : Type} (f : X → Bool) (l : List X) (k : Nat) (h : k < l.length) : (l.take (k + 1)).any f = ((l.take k).any f || f l[k]) := by
  rw [List.take_succ_eq_append_getElem h, List.any_append]; simp
set_option maxHeartbeats 2000000 in
theorem ndclo_of (x : Nd) (pv : Value) (po : Option Addr) (pn pc : Nat) (hp : pv = .slice po pn pc) (g : Nat) (s : ByteArray) (b : Bool) (w : World) (hc : Hid (w.cell? ⟨g, 0, none⟩ = some (.string s))) (h : Hid (decide (x.nm = s.data.toList) = b)) :
    Calls Try.prog 36 #[.agg #[.string (bb x.nm), .string (bb x.lb), .int .i64 x.w, .int .i64 x.h, .int .i64 x.cl, pv], .pointer (some ⟨g, 0, none⟩)] w fun e w' => e = .returned (.bool b) ∧ Below w.heap.size w w' := by
  subst hp
  obtain ⟨Y, hY⟩ : ∃ Y, bb x.nm = Y := ⟨_, rfl⟩
  have hY2 : Y.data.toList = x.nm := by rw [← hY]
  have e1 : (Y.toList == s.toList) = b := by rw [← h.out, ByteArray.toList_eq, ByteArray.toList_eq, hY2, Bool.eq_iff_iff]; simp
  rw [hY]
  have c1 := cell_keep (al1 w (.cells #[.string Y, .string (bb x.lb), .int .i64 x.w, .int .i64 x.h, .int .i64 x.cl, .slice po pn pc] 48)) hc.out
  have hb := al1 w (.cells #[.string Y, .string (bb x.lb), .int .i64 x.w, .int .i64 x.h, .int .i64 x.cl, .slice po pn pc] 48)
  clear h hc hY hY2
  go_enter Try.func36, Try.ntmps36
  go_wp2
  go_ret
  exact ⟨rfl, hb⟩
set_option maxRecDepth 100000 in
set_option maxHeartbeats 4000000 in
theorem ndidx_of (v : Value) (l : List Nd) (g : Nat) (s : ByteArray) (R : Int) (w : World) (h : Hid (Nds w v l)) (hc : Hid (w.cell? ⟨g, 0, none⟩ = some (.string s))) (hr : Hid (findG l s.data.toList 0 = R)) :
    Calls Try.prog 35 #[v, .func (.func 36) #[] #[.pointer (some ⟨g, 0, none⟩)]] w fun e W' => e = .returned (.int .i64 R) ∧ Below w.heap.size w W' := by
  obtain ⟨ao, cap, rfl, hc1, hm1, -⟩ := id h.out
  unfold maxLen at hm1
  have hlm : l.length ≤ 9223372036854775807 := by omega
  have HR : Hid (findG (l.drop 0) s.data.toList 0 = R) := hr
  clear hc1 hm1 hr
  go_enter Try.func35, Try.ntmps35
  go_wp2_with fail
  go_loopw [8] (fun i wr => ∃ k : Nat, k ≤ l.length ∧ i = .int .i64 k ∧ Below w.heap.size w wr ∧ findG (l.drop k) s.data.toList k = R) (fun i _ => l.length - (intOf i).toNat)
  case atStart => exact ⟨0, Nat.zero_le _, rfl, Below.refl _ _, HR.out⟩
  case round =>
    obtain ⟨k, hk, rfl, hB, hfe⟩ := hrel
    rename World => wr
    have HB := Lib.hid hB
    clear hB HR
    by_cases hlt : k < l.length
    · obtain ⟨A, rfl, s0, s1, s2, s3, s4, ⟨pv, s5, hps⟩, -⟩ := (h.out.keep HB.out).get hlt
      obtain ⟨po, pc, rfl, -, -, -⟩ := id hps
      have hcr := Lib.hid (cell_keep HB.out hc.out)
      rw [findG_at hlt] at hfe
      obtain ⟨x, hx⟩ : ∃ x, l[k] = x := ⟨_, rfl⟩
      rw [hx] at s0 s1 s2 s3 s4 s5 hfe
      obtain ⟨b, hb⟩ : ∃ b, decide (x.nm = s.data.toList) = b := ⟨_, rfl⟩
      have HV := Lib.hid hb
      have HF := Lib.hid hfe
      have i0 : (0 : Int) ≤ (k : Int) := by omega
      have i1 : (k : Int) < (l.length : Int) := by omega
      clear hb hfe hps hx
      cases b
      · go_wp2_with fail
        refine (ndclo_of x _ _ _ _ rfl g s false wr hcr HV).mono ?_
        rintro e w1 ⟨rfl, hb1⟩
        have HB1 := Lib.hid (below_keep hb1 HB.out)
        have HN : Hid (findG (l.drop (k + 1)) s.data.toList (k + 1) = R) := Lib.hid (by have := HF.out; rw [if_neg (of_decide_eq_false HV.out)] at this; exact this)
        clear hb1
        go_wp2
        go_roundw
        case rel => exact ⟨k + 1, by omega, by go_num, HB1.out, HN.out⟩
        case measure => simp [intOf]; omega
      · go_wp2_with fail
        refine (ndclo_of x _ _ _ _ rfl g s true wr hcr HV).mono ?_
        rintro e w1 ⟨rfl, hb1⟩
        have HB1 := Lib.hid (below_keep hb1 HB.out)
        have HN : Hid ((k : Int) = R) := Lib.hid (by have := HF.out; rw [if_pos (of_decide_eq_true HV.out)] at this; exact this)
        clear hb1
        go_wp2
        go_ret
        exact ⟨ret_int HN.out, HB1.out⟩
    · rw [findG_end (by omega)] at hfe
      subst hfe
      go_wp2
      go_ret
      exact ⟨rfl, HB.out⟩
set_option maxRecDepth 100000 in
set_option maxHeartbeats 2000000 in
theorem cfind_of (v : Value) (g : Gr) (s : ByteArray) (R : Int) (w : World) (h : Hid (GrV w v g)) (hr : Hid (findV g s.data.toList = R)) :
    Calls Try.prog 11 #[v, .string s] w fun e w' => e = .returned (.int .i64 R) ∧ Below w.heap.size w w' := by
  have hmf : ∀ (fn : Fn) (first cap : Array Value) (w : World), (Instr.makeFunc fn first cap).run Try.prog w = .ok (.func fn first cap) w := fun _ _ _ _ => rfl
  obtain ⟨nv, ev, cv, rfl, -, hn, -, -⟩ := h.out
  obtain ⟨ao, cap, rfl, -, -, -⟩ := id hn
  have hB := al2 w (.cells #[.string (bb g.nm), .bool g.dir, .slice ao g.ns.length cap, ev, cv] 26) (.cells #[.string s] 9)
  have HN := Lib.hid (hn.keep hB)
  have HC : Hid (((w.alloc (.cells #[.string (bb g.nm), .bool g.dir, .slice ao g.ns.length cap, ev, cv] 26)).alloc (.cells #[.string s] 9)).cell? ⟨w.heap.size + 1, 0, none⟩ = some (.string s)) := Lib.hid (by go_simp)
  clear hn h
  go_enter Try.func11, Try.ntmps11
  go_wp2_with fail
  refine (ndidx_of _ g.ns _ s R _ HN HC hr).mono ?_
  rintro e w1 ⟨rfl, hb1⟩
  have HB1 := Lib.hid (below_keep hb1 hB)
  clear hb1
  go_wp2
  go_ret
  exact ⟨rfl, HB1.out⟩
set_option maxHeartbeats 1000000 in
theorem poclo_of (p : Pt) (g : Nat) (s : ByteArray) (b : Bool) (w : World) (hc : Hid (w.cell? ⟨g, 0, none⟩ = some (.string s))) (h : Hid ((p.1 == s.data.toList) = b)) :
    Calls Try.prog 65 #[.agg #[.string (bb p.1), .int .i64 p.2], .pointer (some ⟨g, 0, none⟩)] w fun e w' => e = .returned (.bool b) ∧ Below w.heap.size w w' := by
  obtain ⟨Y, hY⟩ : ∃ Y, bb p.1 = Y := ⟨_, rfl⟩
  have hY2 : Y.data.toList = p.1 := by rw [← hY]
  have e1 : (Y.toList == s.toList) = b := by rw [← h.out, ByteArray.toList_eq, ByteArray.toList_eq, hY2]
  rw [hY]
  have c1 := cell_keep (al1 w (.cells #[.string Y, .int .i64 p.2] 77)) hc.out
  have hb := al1 w (.cells #[.string Y, .int .i64 p.2] 77)
  clear h hc hY hY2
  go_enter Try.func65, Try.ntmps65
  go_wp2
  go_ret
  exact ⟨rfl, hb⟩
set_option maxRecDepth 100000 in
set_option maxHeartbeats 2000000 in
theorem poidx_of (v : Value) (l : List Pt) (g : Nat) (s : ByteArray) (w : World) (h : Hid (Pts w v l)) (hc : Hid (w.cell? ⟨g, 0, none⟩ = some (.string s))) :
    Calls Try.prog 73 #[v, .func (.func 65) #[] #[.pointer (some ⟨g, 0, none⟩)]] w fun e W' => (∃ i : Int, e = .returned (.int .i64 i) ∧ decide (0 ≤ i) = l.any (fun p => p.1 == s.data.toList)) ∧ Below w.heap.size w W' := by
  obtain ⟨ao, cap, rfl, hc1, hm1, -⟩ := id h.out
  unfold maxLen at hm1
  have hlm : l.length ≤ 9223372036854775807 := by omega
  clear hc1 hm1
  go_enter Try.func73, Try.ntmps73
  go_wp2_with fail
  go_loopw [8] (fun i wr => ∃ k : Nat, k ≤ l.length ∧ i = .int .i64 k ∧ Below w.heap.size w wr ∧ (l.take k).any (fun p => p.1 == s.data.toList) = false) (fun i _ => l.length - (intOf i).toNat)
  case atStart => exact ⟨0, Nat.zero_le _, rfl, Below.refl _ _, by simp⟩
  case round =>
    obtain ⟨k, hk, rfl, hB, hal⟩ := hrel
    rename World => wr
    have HAL := Lib.hid hal
    have HB := Lib.hid hB
    clear hal hB
    by_cases hlt : k < l.length
    · obtain ⟨A, rfl, c0, c1, -⟩ := (h.out.keep HB.out).get hlt
      have hcr := Lib.hid (cell_keep HB.out hc.out)
      have hat := any_take (fun p : Pt => p.1 == s.data.toList) l k hlt
      obtain ⟨b, hb⟩ : ∃ b, (l[k].1 == s.data.toList) = b := ⟨_, rfl⟩
      have HV := Lib.hid hb
      rw [HAL.out, hb] at hat
      have HAT := Lib.hid hat
      have i0 : (0 : Int) ≤ (k : Int) := by omega
      have i1 : (k : Int) < (l.length : Int) := by omega
      clear hb hat
      cases b
      · go_wp2_with fail
        refine (poclo_of l[k] g s false wr hcr HV).mono ?_
        rintro e w1 ⟨rfl, hb1⟩
        have HB1 := Lib.hid (below_keep hb1 HB.out)
        clear hb1
        go_wp2
        go_roundw
        case rel => exact ⟨k + 1, by omega, by go_num, HB1.out, HAT.out⟩
        case measure => simp [intOf]; omega
      · go_wp2_with fail
        refine (poclo_of l[k] g s true wr hcr HV).mono ?_
        rintro e w1 ⟨rfl, hb1⟩
        have HB1 := Lib.hid (below_keep hb1 HB.out)
        clear hb1
        have hany : l.any (fun p => p.1 == s.data.toList) = true := by
          rw [List.any_eq_true]; exact ⟨l[k], List.getElem_mem hlt, HV.out⟩
        have HANY := Lib.hid hany
        clear hany
        go_wp2
        go_ret
        exact ⟨⟨k, rfl, by rw [HANY.out]; simp⟩, HB1.out⟩
    · obtain rfl : k = l.length := by omega
      have HAN : Hid (l.any (fun p => p.1 == s.data.toList) = false) := Lib.hid (by have := HAL.out; rwa [List.take_length] at this)
      go_wp2
      go_ret
      exact ⟨⟨-1, rfl, by rw [HAN.out]; rfl⟩, HB.out⟩
set_option maxHeartbeats 1000000 in
theorem pocon_of (v : Value) (l : List Pt) (g : Nat) (s : ByteArray) (b : Bool) (w : World) (h : Hid (Pts w v l)) (hc : Hid (w.cell? ⟨g, 0, none⟩ = some (.string s))) (hb : Hid (l.any (fun p => p.1 == s.data.toList) = b)) :
    Calls Try.prog 66 #[v, .func (.func 65) #[] #[.pointer (some ⟨g, 0, none⟩)]] w fun e W' => e = .returned (.bool b) ∧ Below w.heap.size w W' := by
  have hq := poidx_of v l g s w h hc
  rw [hb.out] at hq
  go_enter Try.func66, Try.ntmps66
  go_wp2_with fail
  refine hq.mono ?_
  rintro e w1 ⟨⟨i, rfl, hi⟩, hb1⟩
  have HI := Lib.hid hi
  clear hi
  go_wp2
  go_ret
  exact ⟨ret_bool HI.out, hb1⟩
set_option maxHeartbeats 1000000 in
theorem cluclo_of (p : Pt) (g : Nat) (s : ByteArray) (b : Bool) (w : World) (hc : Hid (w.cell? ⟨g, 0, none⟩ = some (.string s))) (h : Hid ((p.1 == s.data.toList) = b)) :
    Calls Try.prog 53 #[.agg #[.string (bb p.1), .int .i64 p.2], .pointer (some ⟨g, 0, none⟩)] w fun e w' => e = .returned (.bool b) ∧ Below w.heap.size w w' := by
  obtain ⟨Y, hY⟩ : ∃ Y, bb p.1 = Y := ⟨_, rfl⟩
  have hY2 : Y.data.toList = p.1 := by rw [← hY]
  have e1 : (Y.toList == s.toList) = b := by rw [← h.out, ByteArray.toList_eq, ByteArray.toList_eq, hY2]
  rw [hY]
  have c1 := cell_keep (al1 w (.cells #[.string Y, .int .i64 p.2] 50)) hc.out
  have hb := al1 w (.cells #[.string Y, .int .i64 p.2] 50)
  clear h hc hY hY2
  go_enter Try.func53, Try.ntmps53
  go_wp2
  go_ret
  exact ⟨rfl, hb⟩
set_option maxRecDepth 100000 in
set_option maxHeartbeats 2000000 in
theorem cluidx_of (v : Value) (l : List Pt) (g : Nat) (s : ByteArray) (w : World) (h : Hid (Cls w v l)) (hc : Hid (w.cell? ⟨g, 0, none⟩ = some (.string s))) :
    Calls Try.prog 67 #[v, .func (.func 53) #[] #[.pointer (some ⟨g, 0, none⟩)]] w fun e W' => (∃ i : Int, e = .returned (.int .i64 i) ∧ decide (0 ≤ i) = l.any (fun p => p.1 == s.data.toList)) ∧ Below w.heap.size w W' := by
  obtain ⟨ao, cap, rfl, hc1, hm1, -⟩ := id h.out
  unfold maxLen at hm1
  have hlm : l.length ≤ 9223372036854775807 := by omega
  clear hc1 hm1
  go_enter Try.func67, Try.ntmps67
  go_wp2_with fail
  go_loopw [8] (fun i wr => ∃ k : Nat, k ≤ l.length ∧ i = .int .i64 k ∧ Below w.heap.size w wr ∧ (l.take k).any (fun p => p.1 == s.data.toList) = false) (fun i _ => l.length - (intOf i).toNat)
  case atStart => exact ⟨0, Nat.zero_le _, rfl, Below.refl _ _, by simp⟩
  case round =>
    obtain ⟨k, hk, rfl, hB, hal⟩ := hrel
    rename World => wr
    have HAL := Lib.hid hal
    have HB := Lib.hid hB
    clear hal hB
    by_cases hlt : k < l.length
    · obtain ⟨A, rfl, c0, c1, -⟩ := (h.out.keep HB.out).get hlt
      have hcr := Lib.hid (cell_keep HB.out hc.out)
      have hat := any_take (fun p : Pt => p.1 == s.data.toList) l k hlt
      obtain ⟨b, hb⟩ : ∃ b, (l[k].1 == s.data.toList) = b := ⟨_, rfl⟩
      have HV := Lib.hid hb
      rw [HAL.out, hb] at hat
      have HAT := Lib.hid hat
      have i0 : (0 : Int) ≤ (k : Int) := by omega
      have i1 : (k : Int) < (l.length : Int) := by omega
      clear hb hat
      cases b
      · go_wp2_with fail
        refine (cluclo_of l[k] g s false wr hcr HV).mono ?_
        rintro e w1 ⟨rfl, hb1⟩
        have HB1 := Lib.hid (below_keep hb1 HB.out)
        clear hb1
        go_wp2
        go_roundw
        case rel => exact ⟨k + 1, by omega, by go_num, HB1.out, HAT.out⟩
        case measure => simp [intOf]; omega
      · go_wp2_with fail
        refine (cluclo_of l[k] g s true wr hcr HV).mono ?_
        rintro e w1 ⟨rfl, hb1⟩
        have HB1 := Lib.hid (below_keep hb1 HB.out)
        clear hb1
        have hany : l.any (fun p => p.1 == s.data.toList) = true := by
          rw [List.any_eq_true]; exact ⟨l[k], List.getElem_mem hlt, HV.out⟩
        have HANY := Lib.hid hany
        clear hany
        go_wp2
        go_ret
        exact ⟨⟨k, rfl, by rw [HANY.out]; simp⟩, HB1.out⟩
    · obtain rfl : k = l.length := by omega
      have HAN : Hid (l.any (fun p => p.1 == s.data.toList) = false) := Lib.hid (by have := HAL.out; rwa [List.take_length] at this)
      go_wp2
      go_ret
      exact ⟨⟨-1, rfl, by rw [HAN.out]; rfl⟩, HB.out⟩
set_option maxHeartbeats 1000000 in
theorem clucon_of (v : Value) (l : List Pt) (g : Nat) (s : ByteArray) (b : Bool) (w : World) (h : Hid (Cls w v l)) (hc : Hid (w.cell? ⟨g, 0, none⟩ = some (.string s))) (hb : Hid (l.any (fun p => p.1 == s.data.toList) = b)) :
    Calls Try.prog 54 #[v, .func (.func 53) #[] #[.pointer (some ⟨g, 0, none⟩)]] w fun e W' => e = .returned (.bool b) ∧ Below w.heap.size w W' := by
  have hq := cluidx_of v l g s w h hc
  rw [hb.out] at hq
  go_enter Try.func54, Try.ntmps54
  go_wp2_with fail
  refine hq.mono ?_
  rintro e w1 ⟨⟨i, rfl, hi⟩, hb1⟩
  have HI := Lib.hid hi
  clear hi
  go_wp2
  go_ret
  exact ⟨ret_bool HI.out, hb1⟩
end Go.Proofs.Ytjeacpohanadnaa.gra
