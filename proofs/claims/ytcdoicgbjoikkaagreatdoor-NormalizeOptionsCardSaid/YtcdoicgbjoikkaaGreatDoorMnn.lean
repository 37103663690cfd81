/-
  The walk of the statement NormalizeOptions of layer 12. Condition: the library's variable MaxLen holds a number.
  What a built graph is like: its names, in order; without an error it is valid, with one it is empty. No condition.
  What same of the statements of layer 12 returns: whether two lists of names are equal. Condition: the lists lie in memory.
  The walk of the statement NormalizeNames of layer 12. Condition: the library's variable MaxLen holds a number.
-/
import Derived.Test.YtcdoicgbjoikkaaGreatDoorMnm
import Derived.Test.YtcdoicgbjoikkaaGreatDoorMnb
import Derived.Test.YtcdoicgbjoikkaaGreatDoorMtd
import Derived.Test.YtcdoicgbjoikkaaGreatDoorMtc
import Derived.Deep.QuietTactic
import Derived.Test.YtcdoicgbjoikkaaGreatDoorMgf
import Derived.Test.YtcdoicgbjoikkaaGreatDoorMgb
namespace Go.Proofs.YtcdoicgbjoikkaaGreatDoor.nor
open Go.RowKit lex tre att

theorem mode_le (s : List UInt8) : modeL s ≤ 4 := by
  rw [mode_lit]
  split
  · decide
  split
  · decide
  split
  · decide
  split
  · decide
  split
  · decide
  · decide
theorem num_rng (k : Int) (l : List Pr) (c : List UInt8) (x : Ru) (hx : knownL k c = x) (hf : x.form = 2 ∨ x.form = 3) (h1 : x.low ≤ x.normal) (h2 : x.normal ≤ x.high) : x.low ≤ numL k l c ∧ numL k l c ≤ x.high := by
  unfold numL
  rw [hx, if_neg (by rcases hf with e | e <;> simp [e])]
  by_cases h3 : (getL l c).2 = false
  · rw [if_pos h3]; exact ⟨h1, h2⟩
  · rw [if_neg h3]
    by_cases h4 : (valR x (getL l c).1).2 = true
    · rw [if_pos h4]
      unfold valR at h4 ⊢
      split at h4
      · simp at h4
      · rename_i h5
        rw [if_neg h5]
        split at h4
        · rename_i h6
          rw [if_pos h6]
          split at h4
          · simp at h4
          · rename_i h7
            rw [if_neg h7]
            simp only [Bool.and_eq_true, decide_eq_true_eq] at h4
            exact h4
        · rename_i h6
          rw [if_neg h6]
          simp only [Bool.and_eq_true, decide_eq_true_eq] at h4
          exact h4
    · rw [if_neg h4]; exact ⟨h1, h2⟩
theorem opts_okO (own : List Pr) : okO (optsOf own) = true := by
  unfold okO optsOf rng
  have a := num_rng 4 own wNodesep ⟨2, 0, 1048576, 10000⟩ rfl (.inl rfl) (by decide) (by decide)
  have b := num_rng 4 own wRanksep ⟨2, 0, 1048576, 20000⟩ rfl (.inl rfl) (by decide) (by decide)
  have c := num_rng 4 own wMargin ⟨2, 0, 1048576, 5000⟩ rfl (.inl rfl) (by decide) (by decide)
  have d := num_rng 4 own wRounds ⟨3, 0, 100, 8⟩ rfl (.inr rfl) (by decide) (by decide)
  have e := mode_le (getL own wMode).1
  simp only at a b c d
  simp only [Bool.and_eq_true, decide_eq_true_eq]
  refine ⟨⟨⟨⟨⟨?_, ?_⟩, a⟩, b⟩, c⟩, d⟩
  · split <;> omega
  · split <;> omega
theorem optsT_ok {T : Tr} {o : Op'} (h : optsT T = (o, 0)) : okO o = true := by
  unfold optsT at h
  split at h
  · rename_i h1; exact absurd (Prod.mk.inj h).2 h1
  · split at h
    · rename_i h1; exact absurd (Prod.mk.inj h).2 h1
    · rw [← (Prod.mk.inj h).1]; exact opts_okO _
set_option maxRecDepth 100000 in
set_option maxHeartbeats 4000000 in
theorem wopts (v : Value) (T : Tr) (w : World) (h : Hid (TrV w v T)) (hM : Hid (Mx w)) :
    Calls Tryz.prog 4 #[v] w fun e w' => e = .returned (.bool true) ∧ Below w.heap.size w w' := by
  obtain ⟨bv, rfl, hnm, hs⟩ := h.out
  obtain ⟨bo, bc, rfl, -, -, -⟩ := id hs
  obtain ⟨o, E, hoE⟩ : ∃ o E, optsT T = (o, E) := ⟨_, _, rfl⟩
  have HO := Lib.hid hoE
  obtain ⟨X, hX⟩ : ∃ X, bb T.name = X := ⟨_, rfl⟩
  have hb1 := al1 w (.cells #[.string X, .bool T.dir, .slice bo T.body.length bc] 24)
  have HT1 := Lib.hid (h.out.keep hb1)
  have HS1 := Lib.hid (hs.keep hb1)
  have HM1 := mx_keep hM hb1
  have HB1 := Lib.hid hb1
  have hA := at3_new w X T.dir (.slice bo T.body.length bc) 24
  rw [hX] at HT1 ⊢
  clear hb1 hs hnm hoE hX h hM
  go_enter Tryz.func4, Tryz.ntmps4
  obtain ⟨a0, a1, a2⟩ := id hA
  have HA1 := Lib.hid hA
  clear hA
  go_wp2_with fail
  generalize w.alloc (.cells #[.string X, .bool T.dir, .slice bo T.body.length bc] 24) = w1 at *
  refine (few_of T.body w1 _ 9 0 (Nat.le_refl _) rfl HS1.out).mono ?_
  rintro e w2 ⟨b, rfl, hbq, rfl⟩
  cases b
  case false =>
    clear hbq
    go_wp2_with fail
    refine (awake_of _ HM1).mono ?_
    rintro e w3 ⟨rfl, hb3⟩
    have HBF := Lib.hid (below_keep hb3 HB1.out)
    clear hb3
    go_wp2
    go_ret
    exact ⟨rfl, HBF.out⟩
  case true =>
    obtain ⟨hcn, -⟩ := hbq rfl
    have hc1 : cnt T.body ≤ 1000000000000 := Nat.le_trans hcn few_bound
    have hc2 : cnt T.body ≤ 2000000000000 := by omega
    clear hbq hcn
    go_wp2_with fail
    clear a0 a1 a2
    refine (opts_of _ T o E w2 HM1 HT1 hc2 HO).mono ?_
    rintro e w3 ⟨he, hb3⟩
    have he2 : e = .returned (.tuple #[.agg #[.int .i64 o.mode, .int .i64 o.ns, .int .i64 o.rs, .int .i64 o.mg, .int .i64 o.rd], .int .i64 E]) := he
    subst he2
    have hal := al1 w3 (.cells #[.int .i64 o.mode, .int .i64 o.ns, .int .i64 o.rs, .int .i64 o.mg, .int .i64 o.rd] 38)
    have hq := below_keep hal hb3
    have HB4 := Lib.hid (below_keep hq HB1.out)
    have HT4 := Lib.hid (HT1.out.keep hq)
    have HM4 := mx_keep HM1 hq
    have HA4 := Lib.hid (at3_keep HA1.out hq)
    have HP4 := Lib.hid (at5_new w3 o 38)
    obtain ⟨a0, a1, a2⟩ := HA4.out
    clear he hb3 hal hq HB1 HT1 HM1 HA1 HS1
    go_wp2_with fail
    clear a0 a1 a2
    generalize w3.alloc (.cells #[.int .i64 o.mode, .int .i64 o.ns, .int .i64 o.rs, .int .i64 o.mg, .int .i64 o.rd] 38) = w4 at *
    refine (ropts_of _ T o E w4 HT4 hc1 HO).mono ?_
    rintro e w5 ⟨he, hb5⟩
    have he2 : e = .returned (.tuple #[.agg #[.int .i64 o.mode, .int .i64 o.ns, .int .i64 o.rs, .int .i64 o.mg, .int .i64 o.rd], .int .i64 E]) := he
    subst he2
    have hal := al1 w5 (.cells #[.int .i64 o.mode, .int .i64 o.ns, .int .i64 o.rs, .int .i64 o.mg, .int .i64 o.rd] 38)
    have hq := below_keep hal hb5
    have HB6 := Lib.hid (below_keep hq HB4.out)
    have HM6 := mx_keep HM4 hq
    obtain ⟨q0, q1, q2, q3, q4⟩ := at5_new w5 o 38
    have HP6 := Lib.hid HP4.out
    obtain ⟨k0, k1, k2, k3, k4⟩ := HP4.out
    have k0 := cell_later' hq k0
    have k1 := cell_later' hq k1
    have k2 := cell_later' hq k2
    have k3 := cell_later' hq k3
    have k4 := cell_later' hq k4
    have heq := eql_op o o true (Lib.hid (by simp))
    have hgo := guard_op
    have hEE : (E == E) = true := by simp
    clear he hb5 hal hq HB4 HT4 HM4 HP4 HA4 HP6
    by_cases hz : E = 0
    case neg =>
      have z0 : (E != 0) = true := by rw [bne_iff_ne]; exact hz
      clear hz
      go_wp2_with fail
      refine (awake_of _ HM6).mono ?_
      rintro e w7 ⟨rfl, hb7⟩
      have HBF := Lib.hid (below_keep hb7 HB6.out)
      clear hb7
      go_wp2
      go_ret
      exact ⟨rfl, HBF.out⟩
    subst hz
    have HOK := Lib.hid (optsT_ok HO.out)
    go_wp2_with fail
    generalize w5.alloc (.cells #[.int .i64 o.mode, .int .i64 o.ns, .int .i64 o.rs, .int .i64 o.mg, .int .i64 o.rd] 38) = w6 at *
    clear q0 q1 q2 q3 q4 k0 k1 k2 k3 k4
    refine (valido_of o true w6 HOK).mono ?_
    rintro e w7 ⟨rfl, hb7⟩
    have HB7 := Lib.hid (below_keep hb7 HB6.out)
    have HM7 := mx_keep HM6 hb7
    clear hb7
    go_wp2_with fail
    refine (awake_of _ HM7).mono ?_
    rintro e w8 ⟨rfl, hb8⟩
    have HBF := Lib.hid (below_keep hb8 HB7.out)
    clear hb8
    go_wp2
    go_ret
    exact ⟨rfl, HBF.out⟩
end Go.Proofs.YtcdoicgbjoikkaaGreatDoor.nor
namespace Go.Proofs.YtcdoicgbjoikkaaGreatDoor.nor
open Go.RowKit lex tre att

theorem build_em {T : Tr} {G : gra.Gr} {E : Int} (h : buildC T = (G, E)) (hz : E ≠ 0) : G = emG := by
  unfold buildC at h
  split at h
  · exact (Prod.mk.inj h).1.symm
  split at h
  · exact (Prod.mk.inj h).1.symm
  split at h
  · exact (Prod.mk.inj h).1.symm
  split at h
  · exact (Prod.mk.inj h).1.symm
  · exact absurd (Prod.mk.inj h).2.symm hz
theorem names_of {T : Tr} {G : gra.Gr} (h : buildC T = (G, 0)) : validT T = 0 ∧ G.ns.map (·.nm) = namesT T ∧ G.cs.map (·.1) = clustersT T ∧ G.nm = T.name ∧ G.dir = T.dir ∧ gra.validE G = 0 := by
  unfold buildC at h
  by_cases v : validT T = 0
  case neg => rw [if_pos v] at h; exact absurd (Prod.mk.inj h).2 v
  rw [if_neg (by simpa using v)] at h
  by_cases e : (blkC T.body pl0 bs0).2 = 0
  case neg => rw [if_pos e] at h; exact absurd (Prod.mk.inj h).2 e
  rw [if_neg (by simpa using e)] at h
  split at h
  · exact absurd (Prod.mk.inj h).2 (by decide)
  by_cases q : gra.validE (finC T.name T.dir (blkC T.body pl0 bs0).1) = 0
  case neg => rw [if_pos q] at h; exact absurd (Prod.mk.inj h).2 q
  rw [if_neg (by simpa using q)] at h
  have hG := (Prod.mk.inj h).1
  have hr := blk_rel.2 T.body pl0 bs0 st0 rel0
  have he : (blkS T.body pl0 st0).e = 0 := by rw [← hr.1]; exact e
  have hR := hr.2 he
  have hn := blk_names.2 T.body pl0 st0 0 ((valid_iff T).1 v).2.2 he
  have hl := blkC_len.2 T.body pl0 bs0 rfl
  rw [← hG]
  refine ⟨v, ?_, ?_, rfl, rfl, q⟩
  · show (ndC' (blkC T.body pl0 bs0).1).map (·.nm) = _
    unfold ndC'
    rw [zip_nm _ _ hl, ← hR.ns, hn.1]
    unfold namesT
    rw [if_pos v]; rfl
  · show (blkC T.body pl0 bs0).1.cs.map (·.1) = _
    rw [← hR.cs, hn.2]
    unfold clustersT
    rw [if_pos v]; rfl
end Go.Proofs.YtcdoicgbjoikkaaGreatDoor.nor
namespace Go.Proofs.YtcdoicgbjoikkaaGreatDoor.nor
open Go.RowKit lex tre

theorem beq_drop {l m : List (List UInt8)} {k : Nat} (hl : k < l.length) (hm : k < m.length) : (l.drop k == m.drop k) = ((l[k] == m[k]) && (l.drop (k + 1) == m.drop (k + 1))) := by
  rw [List.drop_eq_getElem_cons hl, List.drop_eq_getElem_cons hm]; rfl
set_option maxRecDepth 100000 in
set_option maxHeartbeats 8000000 in
theorem lsame12_of (v1 v2 : Value) (l m : List (List UInt8)) (r : Bool) (w : World) (ha : Hid (Nl w v1 l)) (hb : Hid (Nl w v2 m)) (hr : Hid ((l == m) = r)) :
    Calls Tryz.prog 18 #[v1, v2] w fun e w' => e = .returned (.bool r) ∧ Below w.heap.size w w' := by
  have hmx : Tryz.prog.follows .mixedOrders = true := by kernel_rfl
  obtain ⟨ao, cap, rfl, hc1, hm1, _⟩ := id ha.out
  obtain ⟨bo, cbp, rfl, hc2, hm2, _⟩ := id hb.out
  unfold maxLen at hm1 hm2
  have hlm : l.length ≤ 9223372036854775807 := by omega
  have hmm : m.length ≤ 9223372036854775807 := by omega
  clear hc1 hm1 hc2 hm2
  by_cases hle : l.length = m.length
  · have HR : Hid ((l.drop 0 == m.drop 0) = r) := Lib.hid (by rw [List.drop_zero, List.drop_zero]; exact hr.out)
    have b0 : ((l.length : Int) != (m.length : Int)) = false := by rw [bne_eq_false_iff_eq]; omega
    clear hr
    go_enter Tryz.func18, Tryz.ntmps18
    go_wp2_with fail
    go_loopw [5] (fun iv wr => ∃ k : Nat, iv = .int .i64 k ∧ k ≤ l.length ∧ (l.drop k == m.drop k) = r ∧ Below w.heap.size w wr) (fun iv _ => l.length - (intOf iv).toNat)
    case atStart => exact ⟨0, rfl, Nat.zero_le _, HR.out, Below.refl _ _⟩
    case round =>
      obtain ⟨k, rfl, hk, hfe, hB⟩ := hrel
      rename World => wr
      have HFE := Lib.hid hfe
      clear hfe HR
      by_cases hlt : k < l.length
      · have hlt2 : k < m.length := by omega
        obtain ⟨A, rfl, ca⟩ := (ha.out.keep hB).get hlt
        obtain ⟨B, rfl, cb⟩ := (hb.out.keep hB).get hlt2
        have hst := HFE.out
        rw [beq_drop hlt hlt2] at hst
        obtain ⟨x, hx⟩ : ∃ x, l[k] = x := ⟨_, rfl⟩
        obtain ⟨y, hy⟩ : ∃ y, m[k] = y := ⟨_, rfl⟩
        rw [hx, hy] at hst
        rw [hx] at ca
        rw [hy] at cb
        have i0 : (0 : Int) ≤ (k : Int) := by omega
        have i1 : (k : Int) < (l.length : Int) := by omega
        have i2 : (k : Int) < (m.length : Int) := by omega
        clear hx hy HFE
        obtain ⟨X, hX⟩ : ∃ X, bb x = X := ⟨_, rfl⟩
        obtain ⟨Y, hY⟩ : ∃ Y, bb y = Y := ⟨_, rfl⟩
        have hX2 : X.toList = x := by rw [← hX, ByteArray.toList_eq]
        have hY2 : Y.toList = y := by rw [← hY, ByteArray.toList_eq]
        rw [hX] at ca
        rw [hY] at cb
        obtain ⟨q, hq⟩ : ∃ q, (x == y) = q := ⟨_, rfl⟩
        have b1 : (X.toList == Y.toList) = q := by rw [hX2, hY2]; exact hq
        rw [hq] at hst
        clear hX hY hX2 hY2 hq hle
        cases q
        · have HN : Hid (r = false) := Lib.hid (by rw [← hst]; rfl)
          obtain rfl := HN.out
          have b2 : (X.toList != Y.toList) = true := by rw [bne, b1]; rfl
          clear hst
          go_wp2_with fail
          go_quiet (fail)
          have hB2 := below_keep (below_drewT wr nq) hB
          generalize wr.drewN nq = wn at hB2 ⊢
          go_wp2
          go_ret
          exact ⟨rfl, hB2⟩
        · have HN : Hid ((l.drop (k + 1) == m.drop (k + 1)) = r) := Lib.hid (by rw [← hst]; rfl)
          have b2 : (X.toList != Y.toList) = false := by rw [bne, b1]; rfl
          clear hst
          go_wp2_with fail
          go_quiet (fail)
          have hB2 := below_keep (below_drewT wr nq) hB
          generalize wr.drewN nq = wn at hB2 ⊢
          go_wp2
          go_roundw
          case rel => exact ⟨k + 1, by go_num, by omega, HN.out, hB2⟩
          case measure => simp [intOf]; omega
      · obtain rfl : k = l.length := by omega
        have HN : Hid (r = true) := Lib.hid (by rw [← HFE.out, List.drop_length, hle, List.drop_length]; rfl)
        obtain rfl := HN.out
        go_wp2
        go_ret
        exact ⟨rfl, hB⟩
  · have HN : Hid (r = false) := Lib.hid (by
      rw [← hr.out, beq_eq_false_iff_ne]
      exact fun e => hle (by rw [e]))
    have b0 : ((l.length : Int) != (m.length : Int)) = true := by rw [bne_iff_ne]; omega
    obtain rfl := HN.out
    clear hr
    go_enter Tryz.func18, Tryz.ntmps18
    go_wp2
    go_ret
    exact ⟨rfl, Below.refl _ _⟩
end Go.Proofs.YtcdoicgbjoikkaaGreatDoor.nor
namespace Go.Proofs.YtcdoicgbjoikkaaGreatDoor.nor
open Go.RowKit lex tre att

theorem gbb (l : List UInt8) : gra.bb l = bb l := rfl
theorem take_nm {α : Type} (f : α → List UInt8) (l : List α) (i : Nat) (h : i < l.length) : (l.take (i + 1)).map f = (l.take i).map f ++ [f l[i]] := by
  rw [List.take_succ_eq_append_getElem h, List.map_append]; rfl
set_option maxRecDepth 100000 in
set_option maxHeartbeats 4000000 in
theorem wnames (v : Value) (T : Tr) (w : World) (h : Hid (TrV w v T)) (hM : Hid (Mx w)) :
    Calls Tryz.prog 6 #[v] w fun e w' => e = .returned (.bool true) ∧ Below w.heap.size w w' := by
  obtain ⟨bv, rfl, hnm, hs⟩ := h.out
  obtain ⟨bo, bc, rfl, -, -, -⟩ := id hs
  obtain ⟨G, E, hGE⟩ : ∃ G E, buildC T = (G, E) := ⟨_, _, rfl⟩
  have HG := Lib.hid hGE
  obtain ⟨X, hX⟩ : ∃ X, bb T.name = X := ⟨_, rfl⟩
  have HX := Lib.hid hX
  have hb1 := al1 w (.cells #[.string X, .bool T.dir, .slice bo T.body.length bc] 24)
  have HT1 := Lib.hid (h.out.keep hb1)
  have HS1 := Lib.hid (hs.keep hb1)
  have HM1 := mx_keep hM hb1
  have HB1 := Lib.hid hb1
  have hA := at3_new w X T.dir (.slice bo T.body.length bc) 24
  rw [hX] at HT1 ⊢
  clear hb1 hs hnm hGE hX h hM
  go_enter Tryz.func6, Tryz.ntmps6
  obtain ⟨a0, a1, a2⟩ := id hA
  have HA1 := Lib.hid hA
  clear hA
  go_wp2_with fail
  generalize w.alloc (.cells #[.string X, .bool T.dir, .slice bo T.body.length bc] 24) = w1 at *
  refine (few_of T.body w1 _ 9 0 (Nat.le_refl _) rfl HS1.out).mono ?_
  rintro e w2 ⟨b, rfl, hbq, rfl⟩
  cases b
  case false =>
    clear hbq
    go_wp2_with fail
    refine (awake_of _ HM1).mono ?_
    rintro e w3 ⟨rfl, hb3⟩
    have HBF := Lib.hid (below_keep hb3 HB1.out)
    clear hb3
    go_wp2
    go_ret
    exact ⟨rfl, HBF.out⟩
  obtain ⟨hcn, hok⟩ := hbq rfl
  have hc1 : cnt T.body ≤ 1000000000000 := Nat.le_trans hcn few_bound
  have hc2 : cnt T.body ≤ 2000000000000 := by omega
  have HOK := Lib.hid hok
  clear hbq hcn hok
  go_wp2_with fail
  clear a0 a1 a2
  refine (build_of _ T G E w2 HM1 HT1 hc2 HOK HG).mono ?_
  rintro e w3 ⟨gv, rfl, hgv, hb3⟩
  obtain ⟨nv, ev, cv, rfl, hgl, hns, hes, hcs⟩ := id hgv
  obtain ⟨no, nc, rfl, -, hnm1, -⟩ := id hns
  obtain ⟨eo, ec, rfl, -, -, -⟩ := id hes
  obtain ⟨co, cc, rfl, -, hnm2, -⟩ := id hcs
  have hal := al1 w3 (.cells #[.string (bb G.nm), .bool G.dir, .slice no G.ns.length nc, .slice eo G.es.length ec, .slice co G.cs.length cc] 31)
  have hq := below_keep hal hb3
  have HB4 := Lib.hid (below_keep hq HB1.out)
  have HT4 := Lib.hid (HT1.out.keep hq)
  have HM4 := mx_keep HM1 hq
  have HA4 := Lib.hid (at3_keep HA1.out hq)
  have HGV4 := Lib.hid (hgv.keep hal)
  have HNS4 := Lib.hid (hns.keep hal)
  have HCS4 := Lib.hid (hcs.keep hal)
  have HGA4 := Lib.hid (gra.gat_new w3 (bb G.nm) G.dir (.slice no G.ns.length nc) (.slice eo G.es.length ec) (.slice co G.cs.length cc) 31)
  clear hgv hns hes hcs hb3 hal hq HB1 HT1 HM1 HA1 HS1 hgl hnm1 hnm2
  by_cases hz : E = 0
  case neg =>
    have z0 : (E != 0) = true := by rw [bne_iff_ne]; exact hz
    have HEM := Lib.hid (build_em HG.out hz)
    obtain ⟨g0, g1, g2, g3, g4⟩ := HGA4.out
    clear hz
    go_wp2_with fail
    generalize w3.alloc (.cells #[.string (bb G.nm), .bool G.dir, .slice no G.ns.length nc, .slice eo G.es.length ec, .slice co G.cs.length cc] 31) = w4 at *
    clear g0 g1 g2 g3 g4
    refine (gra.gsame_of _ _ G emG true w4 HGV4 (Lib.hid (em_grv w4)) (Lib.hid (by rw [HEM.out]; simp))).mono ?_
    rintro e w5 ⟨rfl, hb5⟩
    have HB5 := Lib.hid (below_keep hb5 HB4.out)
    have HM5 := mx_keep HM4 hb5
    clear hb5
    go_wp2_with fail
    refine (awake_of _ HM5).mono ?_
    rintro e w6 ⟨rfl, hb6⟩
    have HBF := Lib.hid (below_keep hb6 HB5.out)
    clear hb6
    go_wp2
    go_ret
    exact ⟨rfl, HBF.out⟩
  subst hz
  have hnames := names_of HG.out
  have HNAMES := Lib.hid hnames
  have hsm : G.ns.length ≤ 64 ∧ G.cs.length ≤ 16 := by
    have h := hnames.2.2.2.2.2
    unfold gra.validE at h
    split at h
    · exact absurd h (by decide)
    · omega
  have hcn : cnt T.body ≤ 600 := by have := ((valid_iff T).1 hnames.1).2.1; omega
  obtain ⟨hs1, hs2⟩ := hsm
  have hlm : G.ns.length ≤ 9223372036854775807 := by omega
  have hlc : G.cs.length ≤ 9223372036854775807 := by omega
  clear hnames hc1 hc2
  go_wp2_with fail
  generalize w3.alloc (.cells #[.string (bb G.nm), .bool G.dir, .slice no G.ns.length nc, .slice eo G.es.length ec, .slice co G.cs.length cc] 31) = w4 at *
  go_loopw [5, 7] (fun nv iv wr => ∃ (i : Nat) (D : List (List UInt8)), iv = .int .i64 i ∧ i ≤ G.ns.length ∧ (G.ns.take i).map (·.nm) = D ∧ tre.Nrow wr w4.heap.size nv D ∧ Below w4.heap.size w4 wr) (fun _ iv _ => G.ns.length - (intOf iv).toNat)
  case atStart => exact ⟨0, [], rfl, Nat.zero_le _, rfl, World.ownsRow_nil .., Below.refl _ _⟩
  case round =>
    obtain ⟨i, D, rfl, hi, hD, hrow, hB⟩ := hrel
    rename World => wr
    have hsz := hB.size
    obtain ⟨g0, g1, g2, g3, g4⟩ := gra.gat_keep HGA4.out hB
    have HBr := Lib.hid hB
    have HR := Lib.hid hrow
    have HD := Lib.hid hD
    have hDl : D.length ≤ 1000000 := by rw [← hD]; simp; omega
    clear hrow hD
    by_cases hlt : i < G.ns.length
    case pos =>
      obtain ⟨A, rfl, n0⟩ := (HNS4.out.keep hB).get hlt
      have hst := take_nm (·.nm) G.ns i hlt
      obtain ⟨x, hx⟩ : ∃ x, G.ns[i].nm = x := ⟨_, rfl⟩
      have n1 := n0.1
      simp only [hx] at n1 hst
      rw [gbb] at n1
      have HST : Hid ((G.ns.take (i + 1)).map (·.nm) = D ++ [x]) := Lib.hid (by rw [hst, HD.out])
      have i0 : (0 : Int) ≤ (i : Int) := by omega
      have i1 : (i : Int) < (G.ns.length : Int) := by omega
      clear n0 hst hx hB
      go_wp2_with (at_builtin; refine tre.app_name rfl (.tmp 34) (.tmp 41) rfl w4.heap.size _ D x rfl rfl HR hDl hsz ?_; intro v6 w6 hrow6 hgr6)
      have HB6 := HBr.out.grown hgr6 hsz (fun q hq => (World.ownsRow.lt HR.out q hq).1)
      go_roundw
      case rel => exact ⟨i + 1, _, by go_num, by omega, HST.out, hrow6, HB6⟩
      case measure => simp [intOf]; omega
    obtain rfl : i = G.ns.length := by omega
    have HDN : Hid (D = namesT T) := Lib.hid (by rw [← HD.out, List.take_length]; exact HNAMES.out.2.1)
    have HN5 := Lib.hid (tre.Nrow.nl HR.out)
    have HB5 := Lib.hid (below_keep HBr.out HB4.out)
    have HT5 := Lib.hid (HT4.out.keep HBr.out)
    have HM5 := mx_keep HM4 HBr.out
    have HA5 := Lib.hid (at3_keep HA4.out HBr.out)
    have HGV5 := Lib.hid (HGV4.out.keep HBr.out)
    have HCS5 := Lib.hid (HCS4.out.keep HBr.out)
    have HGA5 := Lib.hid (gra.gat_keep HGA4.out HBr.out)
    clear HB4 HT4 HM4 HA4 HGV4 HNS4 HCS4 HGA4 HBr HD hB
    clear HR
    go_wp2_with fail
    clear g0 g1 g2 g3 g4
    generalize wr = w5 at *
    have hs5 := hsz
    clear hsz
    go_loopw [6, 8] (fun cv iv wr => ∃ (i : Nat) (D : List (List UInt8)), iv = .int .i64 i ∧ i ≤ G.cs.length ∧ (G.cs.take i).map (·.1) = D ∧ tre.Nrow wr w5.heap.size cv D ∧ Below w5.heap.size w5 wr) (fun _ iv _ => G.cs.length - (intOf iv).toNat)
    case atStart => exact ⟨0, [], rfl, Nat.zero_le _, rfl, World.ownsRow_nil .., Below.refl _ _⟩
    case round =>
      obtain ⟨i, C, rfl, hi2, hD, hrow, hB⟩ := hrel
      rename World => wq
      have hsz := hB.size
      obtain ⟨g0, g1, g2, g3, g4⟩ := gra.gat_keep HGA5.out hB
      have HBr := Lib.hid hB
      have HR := Lib.hid hrow
      have HD := Lib.hid hD
      have hDl2 : C.length ≤ 1000000 := by rw [← hD]; simp; omega
      clear hrow hD
      by_cases hlt2 : i < G.cs.length
      case pos =>
        obtain ⟨A, rfl, n0⟩ := (HCS5.out.keep hB).get hlt2
        have hst := take_nm (·.1) G.cs i hlt2
        obtain ⟨x, hx⟩ : ∃ x, G.cs[i].1 = x := ⟨_, rfl⟩
        have n1 := n0.1
        simp only [hx] at n1 hst
        rw [gbb] at n1
        have HST : Hid ((G.cs.take (i + 1)).map (·.1) = C ++ [x]) := Lib.hid (by rw [hst, HD.out])
        have i0 : (0 : Int) ≤ (i : Int) := by omega
        have i1 : (i : Int) < (G.cs.length : Int) := by omega
        clear n0 hst hx hB
        go_wp2_with (at_builtin; refine tre.app_name rfl (.tmp 50) (.tmp 57) rfl w5.heap.size _ C x rfl rfl HR hDl2 hsz ?_; intro v6 w6 hrow6 hgr6)
        have HB6 := HBr.out.grown hgr6 hsz (fun q hq => (World.ownsRow.lt HR.out q hq).1)
        go_roundw
        case rel => exact ⟨i + 1, _, by go_num, by omega, HST.out, hrow6, HB6⟩
        case measure => simp [intOf]; omega
      obtain rfl : i = G.cs.length := by omega
      have HCN : Hid (C = clustersT T) := Lib.hid (by rw [← HD.out, List.take_length]; exact HNAMES.out.2.2.1)
      have HC7 := Lib.hid (tre.Nrow.nl HR.out)
      have HN7 := Lib.hid (HN5.out.keep HBr.out)
      have HB7 := Lib.hid (below_keep HBr.out HB5.out)
      have HT7 := Lib.hid (HT5.out.keep HBr.out)
      have HM7 := mx_keep HM5 HBr.out
      have HA7 := Lib.hid (at3_keep HA5.out HBr.out)
      have HGV7 := Lib.hid (HGV5.out.keep HBr.out)
      have HGA7 := Lib.hid (gra.gat_keep HGA5.out HBr.out)
      clear HB5 HT5 HM5 HA5 HGV5 HCS5 HGA5 HBr HD hB HN5 HR
      go_wp2_with fail
      clear g0 g1 g2 g3 g4
      refine (gra.gvalid_of _ G 0 wq HGV7 (Lib.hid HNAMES.out.2.2.2.2.2)).mono ?_
      rintro e w8 ⟨rfl, hb8⟩
      have HB8 := Lib.hid (below_keep hb8 HB7.out)
      have HT8 := Lib.hid (HT7.out.keep hb8)
      have HM8 := mx_keep HM7 hb8
      have HA8 := Lib.hid (at3_keep HA7.out hb8)
      have HGA8 := Lib.hid (gra.gat_keep HGA7.out hb8)
      have HN8 := Lib.hid (HN7.out.keep hb8)
      have HC8 := Lib.hid (HC7.out.keep hb8)
      obtain ⟨a0, a1, a2⟩ := HA8.out
      clear hb8 HB7 HT7 HM7 HA7 HGA7 HN7 HC7 HGV7
      go_wp2_with fail
      clear a0 a1 a2
      refine (rnms_of _ T (namesT T) w8 HT8 hcn HOK.out (Lib.hid rfl)).mono ?_
      rintro e w9 ⟨nv9, rfl, hn9, hb9⟩
      have HNN := Lib.hid hn9
      have HB9 := Lib.hid (below_keep hb9 HB8.out)
      have HT9 := Lib.hid (HT8.out.keep hb9)
      have HM9 := mx_keep HM8 hb9
      have HA9 := Lib.hid (at3_keep HA8.out hb9)
      have HGA9 := Lib.hid (gra.gat_keep HGA8.out hb9)
      have HN9 := Lib.hid (HN8.out.keep hb9)
      have HC9 := Lib.hid (HC8.out.keep hb9)
      clear hn9 hb9 HB8 HT8 HM8 HA8 HGA8 HN8 HC8
      go_wp2_with fail
      refine (lsame12_of _ _ D (namesT T) true w9 HN9 HNN (Lib.hid (by rw [HDN.out]; simp))).mono ?_
      rintro e w10 ⟨rfl, hb⟩
      have HB10 := Lib.hid (below_keep hb HB9.out)
      have HT10 := Lib.hid (HT9.out.keep hb)
      have HM10 := mx_keep HM9 hb
      have HA10 := Lib.hid (at3_keep HA9.out hb)
      have HGA10 := Lib.hid (gra.gat_keep HGA9.out hb)
      have HC10 := Lib.hid (HC9.out.keep hb)
      obtain ⟨a0, a1, a2⟩ := HA10.out
      clear hb HB9 HT9 HM9 HA9 HGA9 HN9 HC9 HNN
      go_wp2_with fail
      clear a0 a1 a2
      refine (rclu_of _ T (clustersT T) w10 HT10 hcn (Lib.hid rfl)).mono ?_
      rintro e w11 ⟨nv11, rfl, hn11, hb⟩
      have HCC := Lib.hid hn11
      have HB11 := Lib.hid (below_keep hb HB10.out)
      have HM11 := mx_keep HM10 hb
      have HA11 := Lib.hid (at3_keep HA10.out hb)
      have HGA11 := Lib.hid (gra.gat_keep HGA10.out hb)
      have HC11 := Lib.hid (HC10.out.keep hb)
      clear hn11 hb HB10 HT10 HM10 HA10 HGA10 HC10
      go_wp2_with fail
      refine (lsame12_of _ _ C (clustersT T) true w11 HC11 HCC (Lib.hid (by rw [HCN.out]; simp))).mono ?_
      rintro e w12 ⟨rfl, hb⟩
      have HB12 := Lib.hid (below_keep hb HB11.out)
      have HM12 := mx_keep HM11 hb
      have HA12 := Lib.hid (at3_keep HA11.out hb)
      have HGA12 := Lib.hid (gra.gat_keep HGA11.out hb)
      clear hb HB11 HM11 HA11 HGA11 HC11 HCC
      obtain ⟨a0, a1, a2⟩ := HA12.out
      obtain ⟨g0, g1, g2, g3, g4⟩ := HGA12.out
      have hgn : bb G.nm = X := by rw [HNAMES.out.2.2.2.1]; exact HX.out
      have hgd : G.dir = T.dir := HNAMES.out.2.2.2.2.1
      rw [hgn] at g0
      rw [hgd] at g1
      have b1 : (X.toList == X.toList) = true := by simp
      have b2 : (T.dir == T.dir) = true := by simp
      clear hgn hgd
      go_wp2_with fail
      refine (awake_of _ HM12).mono ?_
      rintro e w13 ⟨rfl, hb13⟩
      have HBF := Lib.hid (below_keep hb13 HB12.out)
      clear hb13
      go_wp2
      go_ret
      exact ⟨rfl, HBF.out⟩
end Go.Proofs.YtcdoicgbjoikkaaGreatDoor.nor
