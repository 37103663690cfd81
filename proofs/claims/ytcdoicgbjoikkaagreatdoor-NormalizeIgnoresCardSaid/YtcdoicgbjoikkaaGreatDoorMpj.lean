/-
  What ends of the landed builder returns (layer 12): a map from refs to where they lead. Conditions: a builder in memory of at most 100000 finished nodes with short names and at most eight ports each.
  The landed builder while edges are added (layer 12): what stays, one edge more. No condition.
  What addEdges of the landed builder does (layer 12): the edges of all chains, at most one too many. Conditions: a builder in memory of at most 100000 finished nodes and chains, with short names.
-/
import Derived.Test.YtcdoicgbjoikkaaGreatDoorMpi
namespace Go.Proofs.YtcdoicgbjoikkaaGreatDoor.nor
open Go.RowKit lex tre att

/-- What a table of ends holds, as values. -/
def encE (F : EnM) : Pr → Value × Bool := fun r => (.agg #[.int .i64 (F r).1.1, .int .i64 (F r).1.2], (F r).2)
def zEnd : Value := .agg #[.int .i64 0, .int .i64 0]
theorem encE_put (F : EnM) (k : Pr) (a b : Int) : encE (putM F k (a, b)) = fun x => if x = k then (.agg #[.int .i64 a, .int .i64 b], true) else encE F x := by
  funext x
  unfold encE putM
  by_cases h : x = k
  · simp only [if_pos h]
  · simp only [if_neg h]
def EMap (W : World) (b n : Nat) (F : EnM) : Prop := ∃ D, rAt zEnd W b n D (encE F)
theorem EMap.keep {W W' : World} {b n : Nat} {F : EnM} (h : EMap W b n F) (hb : Below W.heap.size W W') : EMap W' b n F := by obtain ⟨D, h⟩ := h; exact ⟨D, h.keep hb⟩
theorem EMap.lt {W : World} {b n : Nat} {F : EnM} (h : EMap W b n F) : b < W.heap.size := by obtain ⟨D, h⟩ := h; exact h.lt
theorem EMap.put {W : World} {b n : Nat} {F : EnM} (h : EMap W b n F) (k : Pr) (x y : Int) (hs : Sm k) (hn : n ≤ 100000000) : ∃ w1, (Instr.mapUpdate 112 (.map (some b)) (.agg #[.string (bb k.1), .string (bb k.2)]) (.agg #[.int .i64 x, .int .i64 y])).run Tryz.prog W = .ok () w1 ∧ EMap w1 b (n + 1) (putM F k (x, y)) ∧ W.grownBy w1 (some b) := by
  obtain ⟨D, h⟩ := h
  obtain ⟨w1, h1, h2, h3⟩ := h.put Tryz.underlying112 k (.agg #[.int .i64 x, .int .i64 y]) hs (by unfold maxLen; omega)
  rw [← encE_put] at h2
  exact ⟨w1, h1, ⟨_, h2⟩, h3⟩
/-- A look-up of a struct gives the zero value where it fails: its two cells. -/
theorem end_zero (w : World) : (zeroValue 117).run Tryz.prog w = .ok zEnd w := Tryz.zeroValue117 w
theorem EMap.look {W : World} {b n : Nat} {F : EnM} (h : EMap W b n F) (k : Pr) (hs : Sm k) {x y : Int} {R : Bool} (hF : F k = ((x, y), R)) : (Instr.lookup 112 (.map (some b)) (.agg #[.string (bb k.1), .string (bb k.2)]) true).run Tryz.prog W = .ok (.tuple #[.agg #[.int .i64 x, .int .i64 y], .bool R]) W := by
  obtain ⟨D, h⟩ := h
  have := h.lookOk Tryz.underlying112 end_zero k hs
  unfold encE at this
  rw [hF] at this
  exact this
/-- Nodes whose names and ports are short. -/
def ShN (l : List gra.Nd) : Prop := ∀ x ∈ l, x.nm.length ≤ 16 ∧ x.ps.length ≤ 8 ∧ ∀ p ∈ x.ps, p.1.length ≤ 16
theorem endN_drop {l : List gra.Nd} {k : Nat} (h : k < l.length) (F : EnM) : endN (l.drop k) k F = endN (l.drop (k + 1)) (k + 1) (endP k l[k].nm l[k].ps 0 (putM F (l[k].nm, []) (k, -1))) := by
  rw [List.drop_eq_getElem_cons h, endN]
theorem endP_drop {l : List (Nm × Int)} {j : Nat} (h : j < l.length) (v : Int) (nm : Nm) (F : EnM) : endP v nm (l.drop j) j F = endP v nm (l.drop (j + 1)) (j + 1) (putM F (nm, l[j].1) (v, j)) := by
  rw [List.drop_eq_getElem_cons h, endP]
set_option maxRecDepth 100000 in
set_option maxHeartbeats 2000000 in
theorem ends_of (w0 : World) (b : Nat) (nm : Nm) (d : Bool) (s : Bs) (L : List (gra.Nd × Value)) (ev : Value) (es : List gra.Ed) (x : BdV) (N : List gra.Nd) (F0 : EnM) (w : World) (hS : Hid (BdF w0 w b nm d s L ev es x)) (hN : Hid (L.map (·.1) = N)) (hsh : Hid (ShN N)) (hl : L.length ≤ 100000) (hF : Hid (endN N 0 em0 = F0)) :
    Calls Tryz.prog 59 #[.pointer (some ⟨b, 0, none⟩)] w fun e w' => ∃ mb n, e = .returned (.map (some mb)) ∧ EMap w' mb n F0 ∧ Below w.heap.size w w' := by
  obtain ⟨nv, cv, av, hv, mb, kb', avs, hvs⟩ := x
  obtain ⟨no, nc, hnv, -, -⟩ := own_form hS.out.fr
  simp only at hnv
  subst hnv
  have hb0 := al1 w (.map #[] 0)
  have HS0 := Lib.hid (hS.out.below hb0)
  have hm0 : EMap (w.alloc (.map #[] 0)) w.heap.size 0 em0 := ⟨_, rAt_made zEnd w⟩
  have HM0 := Lib.hid hm0
  have HB0 := Lib.hid hb0
  have c2 : (w.alloc (.map #[] 0)).cell? ⟨b, 2, none⟩ = some (.slice no L.length nc) := HS0.out.box.read.1
  have hmm := @run_makeMap Tryz.prog
  have HLN : Hid (N.length = L.length) := Lib.hid (by rw [← hN.out, List.length_map])
  have HF0 : Hid (endN (N.drop 0) 0 em0 = F0) := hF
  have HSW := hS
  clear hb0 hm0 hS
  go_enter Tryz.func59, Tryz.ntmps59
  go_wp2_with fail
  clear hmm
  generalize w.alloc (.map #[] 0) = w1 at *
  clear c2
  go_loopw [15] (fun iv wr => ∃ (k n : Nat) (F : EnM), iv = .int .i64 k ∧ k ≤ L.length ∧ Below w.heap.size w wr ∧ EMap wr w.heap.size n F ∧ n ≤ 9 * k ∧ endN (N.drop k) k F = F0) (fun iv _ => L.length - (intOf iv).toNat)
  case atStart => exact ⟨0, 0, em0, rfl, Nat.zero_le _, HB0.out, HM0.out, Nat.zero_le _, HF0.out⟩
  case round =>
    obtain ⟨k, n, F, rfl, hk, hb, hm, hn, hf⟩ := hrel
    rename World => wr
    have HB := Lib.hid hb
    have HM := Lib.hid hm
    have HFk := Lib.hid hf
    have hlm := hm.lt
    clear hb hm hf HS0 HM0 HB0 HF0
    by_cases hlt : k < L.length
    case neg =>
      obtain rfl : k = L.length := by omega
      have HE : Hid (F = F0) := Lib.hid (by have h := HFk.out; rw [← HLN.out, List.drop_length] at h; exact h)
      go_wp2
      go_ret
      exact ⟨_, n, rfl, by rw [← HE.out]; exact HM.out, HB.out⟩
    have hsr := HSW.out.below HB.out
    obtain ⟨g, gc, hnv, hat, -, -⟩ := hsr.at hlt
    simp only at hnv
    cases hnv
    have hkN : k < N.length := by rw [HLN.out]; exact hlt
    have hst := endN_drop hkN F
    rw [HFk.out] at hst
    have hNk : N[k] = L[k].1 := by
      have e : (L.map (·.1))[k]'(by rw [List.length_map]; exact hlt) = L[k].1 := by rw [List.getElem_map]
      rw [← e]
      exact getElem_congr_coll hN.out.symm
    have hsk := hsh.out N[k] (List.getElem_mem hkN)
    have hpv := hsr.pv L[k] (List.getElem_mem hlt)
    rw [hNk] at hst hsk
    obtain ⟨y, hy⟩ : ∃ y, L[k] = y := ⟨_, rfl⟩
    rw [hy] at hat hst hsk hpv
    obtain ⟨y, pv⟩ := y
    simp only at hst hsk hpv
    obtain ⟨po, pc, rfl, -, hpm, -⟩ := id hpv.pos
    obtain ⟨hs1, hs2, hs3⟩ := hsk
    have q0 := hat 0 _ rfl
    have q1 := hat 1 _ rfl
    have q2 := hat 2 _ rfl
    have q3 := hat 3 _ rfl
    have q4 := hat 4 _ rfl
    have q5 := hat 5 _ rfl
    replace q0 : wr.cell? ⟨g, k * 6, none⟩ = some (.string (bb y.nm)) := by have := q0; rwa [Nat.add_zero] at this
    have hal := al1 wr (.cells #[.string (bb y.nm), .string (bb y.lb), .int .i64 y.w, .int .i64 y.h, .int .i64 y.cl, .slice po y.ps.length pc] 45)
    have HT := Lib.hid (blk_new wr #[.string (bb y.nm), .string (bb y.lb), .int .i64 y.w, .int .i64 y.h, .int .i64 y.cl, .slice po y.ps.length pc] 45)
    have hm2 := HM.out.keep hal
    have HB2 := Lib.hid (HB.out.alloc HB.out.size (.cells #[.string (bb y.nm), .string (bb y.lb), .int .i64 y.w, .int .i64 y.h, .int .i64 y.cl, .slice po y.ps.length pc] 45))
    obtain ⟨w3, hput, hm3, hg3⟩ := hm2.put (y.nm, []) (k : Int) (-1) ⟨by unfold maxLen; simp only; omega, by simp⟩ (by omega)
    have HM3 := Lib.hid hm3
    have HB3 := Lib.hid (HB2.out.grown hg3 HB2.out.size (fun q e => by cases e; exact Nat.le_refl _))
    have hne : wr.heap.size ≠ w.heap.size := by omega
    have HT3 : Hid (blk w3 wr.heap.size 45 #[.string (bb y.nm), .string (bb y.lb), .int .i64 y.w, .int .i64 y.h, .int .i64 y.cl, .slice po y.ps.length pc]) := Lib.hid (by
      unfold att.blk
      rw [hg3.block _ (by simp) (fun e => hne (Option.some.inj e))]; exact HT.out)
    have hput2 : (Instr.mapUpdate 112 (.map (some w.heap.size)) (.agg #[.string (bb y.nm), .string ⟨#[]⟩]) (.agg #[.int .i64 (k : Int), .int .i64 (-1)])).run Tryz.prog (wr.alloc (.cells #[.string (bb y.nm), .string (bb y.lb), .int .i64 y.w, .int .i64 y.h, .int .i64 y.cl, .slice po y.ps.length pc] 45)) = .ok () w3 := hput
    have d5 : w3.cell? ⟨wr.heap.size, 5, none⟩ = some (.slice po y.ps.length pc) := by rw [blk_cell HT3.out]; rfl
    have HST := Lib.hid hst
    have HS3 := Lib.hid hs3
    have HMEM : Hid ((y, Value.slice po y.ps.length pc) ∈ L) := Lib.hid (by rw [← hy]; exact List.getElem_mem hlt)
    have i0 : (0 : Int) ≤ (k : Int) := by omega
    have i1 : (k : Int) < (L.length : Int) := by omega
    have hpl : y.ps.length ≤ 9223372036854775807 := by omega
    clear hput hm3 hg3 hm2 hal hst hs3 hpv hpm hat hy hNk hsr HM HB HT HB2 HFk
    go_wp2_with fail
    clear q0 q1 q2 q3 q4 q5 hput2 d5
    obtain ⟨G, hG⟩ : ∃ G, wr.heap.size = G := ⟨_, rfl⟩
    simp only [hG]
    rw [hG] at HT3 hne
    go_loopw [29] (fun iv wi => ∃ (j m : Nat) (F' : EnM), iv = .int .i64 j ∧ j ≤ y.ps.length ∧ Below w.heap.size w wi ∧ EMap wi w.heap.size m F' ∧ m ≤ 9 * k + 1 + j ∧ endP (k : Int) y.nm (y.ps.drop j) j F' = endP (k : Int) y.nm y.ps 0 (putM F (y.nm, []) ((k : Int), -1)) ∧ blk wi G 45 #[.string (bb y.nm), .string (bb y.lb), .int .i64 y.w, .int .i64 y.h, .int .i64 y.cl, .slice po y.ps.length pc]) (fun iv _ => y.ps.length - (intOf iv).toNat)
    case atStart => exact ⟨0, n + 1, _, rfl, Nat.zero_le _, HB3.out, HM3.out, by omega, rfl, HT3.out⟩
    case round =>
      obtain ⟨j, m, F', rfl, hj, hb, hm, hmn, hf, ht⟩ := hrel
      rename World => wi
      have HB := Lib.hid hb
      have HM := Lib.hid hm
      have HFj := Lib.hid hf
      have HT := Lib.hid ht
      have hlm2 := hm.lt
      clear hb hm hf ht HB3 HM3 HT3
      by_cases hlt2 : j < y.ps.length
      case neg =>
        obtain rfl : j = y.ps.length := by omega
        have HE : Hid (endN (N.drop (k + 1)) (k + 1) F' = F0) := Lib.hid (by have h := HFj.out; rw [List.drop_length, endP] at h; rw [h]; exact HST.out.symm)
        go_wp2
        go_roundw
        case rel => exact ⟨k + 1, m, F', by go_num, by omega, HB.out, HM.out, by omega, HE.out⟩
        case measure => simp [intOf]; omega
      have hst2 := endP_drop hlt2 (k : Int) y.nm F'
      rw [HFj.out] at hst2
      obtain ⟨A, rfl, c0, c1⟩ := ((HSW.out.below HB.out).pv _ HMEM.out).pos.get hlt2
      have hsp := HS3.out _ (List.getElem_mem hlt2)
      obtain ⟨u, hu⟩ : ∃ u, y.ps[j] = u := ⟨_, rfl⟩
      rw [hu] at c0 c1 hst2 hsp
      obtain ⟨u1, u2⟩ := u
      simp only at c0 c1 hst2 hsp
      have hal := al1 wi (.cells #[.string (bb u1), .int .i64 u2] 129)
      have hm2 := HM.out.keep hal
      have HB2 := Lib.hid (HB.out.alloc HB.out.size (.cells #[.string (bb u1), .int .i64 u2] 129))
      have hT2 := blk_below HT.out hal
      obtain ⟨w5, hput, hm5, hg5⟩ := hm2.put (y.nm, u1) (k : Int) (j : Int) ⟨by unfold maxLen; simp only; omega, by unfold maxLen; simp only; omega⟩ (by omega)
      have HM5 := Lib.hid hm5
      have HB5 := Lib.hid (HB2.out.grown hg5 HB2.out.size (fun q e => by cases e; exact Nat.le_refl _))
      have HT5 : Hid (blk w5 G 45 #[.string (bb y.nm), .string (bb y.lb), .int .i64 y.w, .int .i64 y.h, .int .i64 y.cl, .slice (some A) y.ps.length pc]) := Lib.hid (by
        unfold att.blk at hT2 ⊢
        rw [hg5.block _ (heap_lt hT2) (fun e => hne (Option.some.inj e))]; exact hT2)
      have e0 : (wi.alloc (.cells #[.string (bb u1), .int .i64 u2] 129)).cell? ⟨G, 0, none⟩ = some (.string (bb y.nm)) := by rw [blk_cell hT2]; rfl
      have HST2 := Lib.hid hst2.symm
      have j0 : (0 : Int) ≤ (j : Int) := by omega
      have j1 : (j : Int) < (y.ps.length : Int) := by omega
      clear hal hm2 hm5 hg5 hT2 hst2 hu
      go_wp2_with fail
      go_roundw
      case rel => exact ⟨j + 1, m + 1, _, by go_num, by omega, HB5.out, HM5.out, by omega, HST2.out, HT5.out⟩
      case measure => simp [intOf]; omega
end Go.Proofs.YtcdoicgbjoikkaaGreatDoor.nor
namespace Go.Proofs.YtcdoicgbjoikkaaGreatDoor.nor
open Go.RowKit lex tre att

/-- What the adding of edges leaves alone: all blocks but those of edges and of the builder. -/
def coldE : Obj → Prop
  | .cells _ t _ => t ≠ 60 ∧ t ≠ 67
  | _ => True
structure TFe (w w' : World) : Prop where
  os : w'.os = w.os
  tape : w'.tape = w.tape
  output : w'.output = w.output
  size : w.heap.size ≤ w'.heap.size
  block : ∀ (k : Nat) (o : Obj), w.heap[k]? = some o → coldE o → w'.heap[k]? = some o
theorem TFe.refl (w : World) : TFe w w := ⟨rfl, rfl, rfl, Nat.le_refl _, fun _ _ h _ => h⟩
theorem TFe.trans {a b c : World} (h : TFe a b) (k : TFe b c) : TFe a c :=
  ⟨k.os.trans h.os, k.tape.trans h.tape, k.output.trans h.output, Nat.le_trans h.size k.size, fun i o hi ho => k.block i o (h.block i o hi ho) ho⟩
theorem TFe.below {w w' : World} (h : Below w.heap.size w w') : TFe w w' := ⟨h.os, h.tape, h.output, h.size, fun k o hk _ => by rw [h.block k (heap_lt hk)]; exact hk⟩
theorem TFe.blk {w w' : World} (h : TFe w w') {g : Nat} {t : TypeId} {arr : Array Value} (hb : blk w g t arr) (h1 : t ≠ 60) (h2 : t ≠ 67) : blk w' g t arr := h.block g _ hb ⟨h1, h2⟩
theorem TFe.prs {w w' : World} (h : TFe w w') {v : Value} {l : List Pr} (hp : PrsT w v l) : PrsT w' v l := prsT_far hp fun k arr fr hk => by rw [hk]; exact h.block k _ hk ⟨by decide, by decide⟩
theorem TFe.emap {w w' : World} (h : TFe w w') {b n : Nat} {F : EnM} (hm : EMap w b n F) : EMap w' b n F := by
  obtain ⟨D, hm⟩ := hm
  obtain ⟨es, c, hk, h2⟩ := hm.1
  exact ⟨D, ⟨es, c, h.block b _ hk trivial, h2⟩, hm.2⟩
theorem info_ed : (Tryz.prog.info? 60).map (fun i => (i.zero, i.size, i.bytes)) = some (some (.agg #[.int .i64 0, .int .i64 0, .int .i64 0, .int .i64 0, .string ⟨#[]⟩, .int .i64 0, .int .i64 0]), 7, 64) := by kernel_rfl
section
variable {w0 W Wd w1 : World} {b : Nat} {nm : Nm} {d : Bool} {s : Bs} {L : List (gra.Nd × Value)} {ev : Value} {es : List gra.Ed} {x : BdV}
/-- One edge more. -/
theorem BdF.growD {ev' : Value} {e : gra.Ed} (h : BdF w0 W b nm d s L ev es x) (hb : Below W.heap.size W Wd) (hg : Wd.grownBy w1 ev.ownBlock) (ho : Drow w1 w0.heap.size ev' (es ++ [e])) :
    (bdb w1 b nm d x.nv ev x.cv x.av x.mb x.kb x.hv ∧ TFe W w1) ∧ BdF w0 (w1.setCell ⟨b, 3, none⟩ ev') b nm d s L ev' (es ++ [e]) x ∧ TFe W (w1.setCell ⟨b, 3, none⟩ ev') := by
  have k := h.below hb
  have hbx : bdb w1 b nm d x.nv ev x.cv x.av x.mb x.kb x.hv := blk_grown k.box k.er hg (by decide)
  have t1 : TFe Wd w1 := by
    refine ⟨hg.os, hg.tape, hg.output, hg.size, fun q o hq hc => ?_⟩
    by_cases e : some q = ev.ownBlock
    · exfalso
      rcases k.er.2 with ⟨rfl, _⟩ | ⟨k', cap, cur, rfl, _, h2, _⟩
      · cases e
      · obtain rfl : q = k' := Option.some.inj e
        rw [h2] at hq
        cases hq
        exact hc.1 rfl
    · rw [hg.block q (heap_lt hq) e]; exact hq
  have t2 : TFe w1 (w1.setCell ⟨b, 3, none⟩ ev') := by
    refine ⟨rfl, rfl, rfl, by simp [World.setCell], fun q o hq hc => ?_⟩
    by_cases e : q = b
    · exfalso
      subst e
      unfold bdb att.blk at hbx
      rw [hbx] at hq
      cases hq
      exact hc.2 rfl
    · rw [Below.heap_setCell _ _ _ _ e]; exact hq
  have b1 : Below w0.heap.size Wd w1 := below_row k.er hg k.base
  have hbox3 := hbx.set3 ev'
  refine ⟨⟨hbx, (TFe.below hb).trans t1⟩, ⟨h.low, (h.old.trans ((hb.mono h.base).trans b1)).setCell h.low _, hbox3, row_set (row_grown k.fr k.er hg (by decide)) hbx (by decide) _, row_set ho hbx (by decide) _, row_set (row_grown k.cr k.er hg (by decide)) hbx (by decide) _, row_set (row_grown k.ar k.er hg (by decide)) hbx (by decide) _, row_set (row_grown k.hr k.er hg (by decide)) hbx (by decide) _, h.al, fun i q1 q2 => (t1.trans t2).prs (k.ap i q1 q2), h.hl, fun i q1 q2 => ⟨(h.hp i q1 q2).1, (t1.trans t2).prs (k.hp i q1 q2).2⟩, fun y hy => posT_far (k.pv y hy) fun q arr fr hq => by rw [hq]; exact (t1.trans t2).block q _ hq ⟨by decide, by decide⟩⟩, ((TFe.below hb).trans t1).trans t2⟩
/-- What is read of a chain. -/
theorem BdF.chain (h : BdF w0 W b nm d s L ev es x) {k : Nat} (hk : k < x.hvs.length) : ∃ g cap, x.hv = .slice (some ⟨g, 0, none⟩) x.hvs.length cap ∧ W.cell? ⟨g, k * 2, none⟩ = some x.hvs[k].1 ∧ W.cell? ⟨g, k * 2 + 1, none⟩ = some x.hvs[k].2 := by
  obtain ⟨g, cap, arr, e, _, hg, _, _, h3⟩ := own_blk h.hr (by omega)
  refine ⟨g, cap, e, ?_, ?_⟩
  · have e0 := flat_get chC 2 (fun _ => rfl) x.hvs k 0 hk (by decide)
    rw [blk_cell hg, ← Nat.add_zero (k * 2), h3 _ (by omega)]; exact e0
  · have e1 := flat_get chC 2 (fun _ => rfl) x.hvs k 1 hk (by decide)
    rw [blk_cell hg, h3 _ (by omega)]; exact e1
end
theorem addC_drop {F : EnM} {ch : List (List Pr × List Pr)} {k : Nat} (h : k < ch.length) (es : List gra.Ed) : addC F (ch.drop k) es = if (edcC F ch[k] es).2 = false then ((edcC F ch[k] es).1, false) else addC F (ch.drop (k + 1)) (edcC F ch[k] es).1 := by
  rw [List.drop_eq_getElem_cons h, addC]
theorem edgC_drop {F : EnM} {lb : Nm} {wt ln : Int} {l : List Pr} {i : Nat} (h : i + 1 < l.length) (es : List gra.Ed) : edgC F lb wt ln (l.drop i) es = if (F l[i]).2 = false ∨ (F l[i + 1]).2 = false then (es, false) else edgC F lb wt ln (l.drop (i + 1)) (if es.length ≤ 256 then es ++ [⟨(F l[i]).1.1, (F l[i + 1]).1.1, (F l[i]).1.2, (F l[i + 1]).1.2, lb, wt, ln⟩] else es) := by
  rw [List.drop_eq_getElem_cons (show i < l.length by omega), List.drop_eq_getElem_cons h, edgC]
theorem edgC_last {F : EnM} {lb : Nm} {wt ln : Int} {l : List Pr} {i : Nat} (h : i + 1 = l.length) (es : List gra.Ed) : edgC F lb wt ln (l.drop i) es = (es, true) := by
  rw [List.drop_eq_getElem_cons (show i < l.length by omega), List.drop_eq_nil_of_le (by omega)]
  rfl
end Go.Proofs.YtcdoicgbjoikkaaGreatDoor.nor
namespace Go.Proofs.YtcdoicgbjoikkaaGreatDoor.nor
open Go.RowKit lex tre att

theorem edcC_len {F : EnM} {lb : Nm} {wt ln : Int} : ∀ (l : List Pr) (es : List gra.Ed), es.length ≤ 257 → (edgC F lb wt ln l es).1.length ≤ 257
  | [], es, h => h
  | [_], es, h => h
  | r :: q :: t, es, h => by
    unfold edgC
    split
    · exact h
    · refine edcC_len (q :: t) _ ?_
      split
      · rw [List.length_append, List.length_singleton]; omega
      · exact h
theorem sm_16 {r : Pr} (h : r.1.length ≤ 16 ∧ r.2.length ≤ 16) : Sm r := ⟨by unfold maxLen; omega, by unfold maxLen; omega⟩
set_option maxRecDepth 100000 in
set_option maxHeartbeats 2000000 in
theorem addedges_of (w0 : World) (b : Nat) (nm : Nm) (d : Bool) (s : Bs) (L : List (gra.Nd × Value)) (x : BdV) (N : List gra.Nd) (F : EnM) (RS : List gra.Ed × Bool) (w : World) (hS : Hid (BdF w0 w b nm d s L (.slice none 0 0) [] x)) (hN : Hid (L.map (·.1) = N)) (hsh : Hid (ShN N)) (hl : L.length ≤ 100000) (hcl : s.ch.length ≤ 100000) (hF : Hid (endN N 0 em0 = F)) (hnm : Hid (NmS s)) (hga : Hid (GaS s)) (hR : Hid (addC F s.ch [] = RS)) :
    Calls Tryz.prog 26 #[.pointer (some ⟨b, 0, none⟩)] w fun e w' => e = .returned (.bool RS.2) ∧ Below w0.heap.size w0 w' ∧ (RS.2 = true → ∃ ev, BdF w0 w' b nm d s L ev RS.1 x) := by
  obtain ⟨nv, cv, av, hv, mb, kb', avs, hvs⟩ := x
  obtain ⟨ho, hc, hhv, -, -⟩ := own_form hS.out.hr
  simp only at hhv
  subst hhv
  have hhl : hvs.length = s.ch.length := hS.out.hl
  have HHL := Lib.hid hhl
  have hvl : hvs.length ≤ 100000 := by omega
  have HR0 : Hid (addC F (s.ch.drop 0) [] = RS) := hR
  clear hhl hcl
  go_enter Tryz.func26, Tryz.ntmps26
  go_wp2_with fail
  refine (ends_of w0 b nm d s L _ [] _ N F w hS hN hsh hl hF).mono ?_
  rintro e w1 ⟨em, mn, rfl, hem, hb1⟩
  have HS1 := Lib.hid (hS.out.below hb1)
  have HE1 := Lib.hid hem
  have c8 : w1.cell? ⟨b, 8, none⟩ = some (.slice ho hvs.length hc) := HS1.out.box.read.2.2.2.2.2
  clear hem hb1 hS hR
  go_wp2_with fail
  clear c8
  go_loopw [23] (fun iv wr => ∃ (k : Nat) (es : List gra.Ed) (ev : Value), iv = .int .i64 k ∧ k ≤ hvs.length ∧ BdF w0 wr b nm d s L ev es ⟨nv, cv, av, .slice ho hvs.length hc, mb, kb', avs, hvs⟩ ∧ EMap wr em mn F ∧ addC F (s.ch.drop k) es = RS ∧ es.length ≤ 257) (fun iv _ => hvs.length - (intOf iv).toNat)
  case atStart => exact ⟨0, [], _, rfl, Nat.zero_le _, HS1.out, HE1.out, HR0.out, Nat.zero_le _⟩
  case round =>
    obtain ⟨k, es, ev, rfl, hk, hsi, hem, hrs, hel⟩ := hrel
    rename World => wr
    have HSI := Lib.hid hsi
    have HEM := Lib.hid hem
    have HRS := Lib.hid hrs
    clear hsi hem hrs HS1 HE1 HR0
    by_cases hlt : k < hvs.length
    case neg =>
      have hke : k = s.ch.length := by have := HHL.out; omega
      have HE : Hid (RS = (es, true)) := Lib.hid (by have h := HRS.out; rw [hke, List.drop_length, addC] at h; exact h.symm)
      obtain rfl := HE.out
      clear hke
      go_wp2
      go_ret
      exact ⟨rfl, HSI.out.old, ev, HSI.out⟩
    have hkc : k < s.ch.length := by rw [← HHL.out]; exact hlt
    obtain ⟨g, gc, hhv, h0, h1⟩ := HSI.out.chain hlt
    simp only at hhv
    cases hhv
    obtain ⟨hpr, hpa⟩ := HSI.out.hp k hlt hkc
    have hdr := addC_drop (F := F) hkc es
    rw [HRS.out] at hdr
    obtain ⟨hr1, hrn⟩ := hnm.out.2 _ (List.getElem_mem hkc)
    have hgk := hga.out.2 _ (List.getElem_mem hkc)
    obtain ⟨u, hu⟩ : ∃ u, hvs[k] = u := ⟨_, rfl⟩
    obtain ⟨c, hcq⟩ : ∃ c, s.ch[k] = c := ⟨_, rfl⟩
    simp only at h0 h1 hpr hpa
    rw [hu] at h0 h1 hpr hpa
    rw [hcq] at hpr hpa hdr hr1 hrn hgk
    obtain ⟨rv, av'⟩ := u
    obtain ⟨rs, ats⟩ := c
    simp only at h0 h1 hpr hpa hr1 hrn hgk
    obtain ⟨ro, rc, rfl, hrc, hrm, hrA⟩ := id hpr
    obtain ⟨A, rfl, -⟩ := hrA (by omega)
    obtain ⟨ao, ac, rfl, _, _, _⟩ := id hpa.prs
    unfold maxLen at hrm
    have hrlm : rs.length ≤ 9223372036854775807 := by omega
    have hall : ats.length ≤ 1000 := Nat.le_trans hgk.len (by decide)
    obtain ⟨lb, hlb⟩ : ∃ q, getL ats wLabel = q := ⟨_, rfl⟩
    obtain ⟨lb, lbb⟩ := lb
    obtain ⟨wt, hwt⟩ : ∃ q, numL 2 ats wWeight = q := ⟨_, rfl⟩
    obtain ⟨ln, hln⟩ : ∃ q, numL 2 ats wLen = q := ⟨_, rfl⟩
    have HLB : Hid (getL ats (⟨#[108, 97, 98, 101, 108]⟩ : ByteArray).data.toList = (lb, lbb)) := Lib.hid hlb
    have HWT : Hid (numL 2 ats (⟨#[119, 101, 105, 103, 104, 116]⟩ : ByteArray).data.toList = wt) := Lib.hid hwt
    have HLN : Hid (numL 2 ats (⟨#[108, 101, 110]⟩ : ByteArray).data.toList = ln) := Lib.hid hln
    have hed : edcC F (rs, ats) es = edgC F lb wt ln rs es := by unfold edcC; rw [hlb, hwt, hln]
    rw [hed] at hdr
    obtain ⟨RC, hRC⟩ : ∃ RC, edgC F lb wt ln rs es = RC := ⟨_, rfl⟩
    rw [hRC] at hdr
    have hRL : RC.1.length ≤ 257 := by rw [← hRC]; exact edcC_len rs es hel
    have HRC : Hid (edgC F lb wt ln (rs.drop 0) es = RC) := Lib.hid hRC
    have HDR := Lib.hid hdr
    have HPR := Lib.hid hpr
    have HRN := Lib.hid hrn
    have hal := al1 wr (.cells #[.slice (some A) rs.length rc, .slice ao ats.length ac] 115)
    have HS2 := Lib.hid (HSI.out.below hal)
    have HE2 := Lib.hid (HEM.out.keep hal)
    have HPA2 := Lib.hid (hpa.keep hal)
    have HT2 := Lib.hid (blk_new wr #[.slice (some A) rs.length rc, .slice ao ats.length ac] 115)
    have i0 : (0 : Int) ≤ (k : Int) := by omega
    have i1 : (k : Int) < (hvs.length : Int) := by omega
    clear hpr hpa hdr hrn hgk hu hcq hrA hlb hwt hln hed hRC hal hkc hrm HSI HEM HRS
    go_wp2_with fail
    obtain ⟨G, hG⟩ : ∃ G, wr.heap.size = G := ⟨_, rfl⟩
    rw [hG] at HT2
    simp only [hG]
    generalize wr.alloc (.cells #[.slice (some A) rs.length rc, .slice ao ats.length ac] 115) = w2 at *
    clear h0 h1 hG
    refine (get_of _ ats ⟨#[108, 97, 98, 101, 108]⟩ lb lbb w2 (Lib.hid HPA2.out.prs) hall HLB).mono ?_
    rintro e w3 ⟨rfl, hb3⟩
    have HS3 := Lib.hid (HS2.out.below hb3)
    have HE3 := Lib.hid (HE2.out.keep hb3)
    have HPA3 := Lib.hid (HPA2.out.keep hb3)
    have HT3 := Lib.hid (blk_below HT2.out hb3)
    have d1 : w3.cell? ⟨G, 1, none⟩ = some (.slice ao ats.length ac) := by rw [blk_cell HT3.out]; rfl
    clear hb3 HS2 HE2 HPA2 HT2
    go_wp2_with fail
    clear d1
    refine (num10_of 2 _ ats ⟨#[119, 101, 105, 103, 104, 116]⟩ wt w3 (Lib.hid HPA3.out.prs) hall (by decide) HWT).mono ?_
    rintro e w4 ⟨rfl, hb4⟩
    have HS4 := Lib.hid (HS3.out.below hb4)
    have HE4 := Lib.hid (HE3.out.keep hb4)
    have HPA4 := Lib.hid (HPA3.out.keep hb4)
    have HT4 := Lib.hid (blk_below HT3.out hb4)
    have d1 : w4.cell? ⟨G, 1, none⟩ = some (.slice ao ats.length ac) := by rw [blk_cell HT4.out]; rfl
    clear hb4 HS3 HE3 HPA3 HT3
    go_wp2_with fail
    clear d1
    refine (num10_of 2 _ ats ⟨#[108, 101, 110]⟩ ln w4 (Lib.hid HPA4.out.prs) hall (by decide) HLN).mono ?_
    rintro e w5 ⟨rfl, hb5⟩
    have HS5 := Lib.hid (HS4.out.below hb5)
    have HE5 := Lib.hid (HE4.out.keep hb5)
    have HT5 := Lib.hid (blk_below HT4.out hb5)
    have d0 : w5.cell? ⟨G, 0, none⟩ = some (.slice (some A) rs.length rc) := by rw [blk_cell HT5.out]; rfl
    clear hb5 HS4 HE4 HPA4 HT4
    have hr1' : (1 : Int) ≤ (rs.length : Int) := by omega
    have hr2' : (1 : Int) < (rc : Int) := by omega
    have hr3 : 1 < rc := by omega
    have hr4 : 0 < rs.length - 1 := by omega
    have hr5 : 0 < rc - 1 := by omega
    go_wp2_with fail
    clear d0
    have hlm1 : rs.length - 1 ≤ 9223372036854775807 := by omega
    go_loopw [43] (fun iv wi => ∃ (i : Nat) (es' : List gra.Ed) (ev' : Value), iv = .int .i64 i ∧ i ≤ rs.length - 1 ∧ BdF w0 wi b nm d s L ev' es' ⟨nv, cv, av, .slice (some ⟨g, 0, none⟩) hvs.length hc, mb, kb', avs, hvs⟩ ∧ EMap wi em mn F ∧ edgC F lb wt ln (rs.drop i) es' = RC ∧ es'.length ≤ 257 ∧ blk wi G 115 #[.slice (some A) rs.length rc, .slice ao ats.length ac]) (fun iv _ => (rs.length - 1) - (intOf iv).toNat)
    case atStart => exact ⟨0, es, ev, rfl, Nat.zero_le _, HS5.out, HE5.out, HRC.out, hel, HT5.out⟩
    case round =>
      obtain ⟨i, es', ev', rfl, hi, hsi, hem, hrc', hel', hti⟩ := hrel
      rename World => wi
      have HSI := Lib.hid hsi
      have HEM := Lib.hid hem
      have HRC' := Lib.hid hrc'
      have HTI := Lib.hid hti
      have hbl := hsi.lt
      have hgl := heap_lt hti
      clear hsi hem hrc' hti HS5 HE5 HRC HT5
      by_cases hlt2 : i < rs.length - 1
      case neg =>
        have hie : i + 1 = rs.length := by omega
        have hiq : i = rs.length - 1 := by omega
        have HRE : Hid (RC = (es', true)) := Lib.hid (by rw [← HRC'.out]; exact edgC_last hie es')
        have HN : Hid (addC F (s.ch.drop (k + 1)) es' = RS) := Lib.hid (by have h := HDR.out; rw [HRE.out] at h; rw [if_neg (by simp)] at h; exact h.symm)
        have dlt : decide ((i : Int) < ((rs.length - 1 : Nat) : Int)) = false := decide_eq_false (by omega)
        clear hie
        subst hiq
        go_wp2
        go_roundw
        case rel => exact ⟨k + 1, es', ev', by go_num, by omega, HSI.out, HEM.out, HN.out, hel'⟩
        case measure => simp [intOf]; omega
      have hi1 : i < rs.length := by omega
      have hi2 : i + 1 < rs.length := by omega
      have hst := edgC_drop (F := F) (lb := lb) (wt := wt) (ln := ln) hi2 es'
      rw [HRC'.out] at hst
      obtain ⟨A', eA, c0, c1, -, -⟩ := (HPR.out.keep HSI.out.old).get hi1
      cases eA
      obtain ⟨A', eA, e0, e1, -, -⟩ := (HPR.out.keep HSI.out.old).get hi2
      cases eA
      have hn1 := HRN.out _ (List.getElem_mem hi1)
      have hn2 := HRN.out _ (List.getElem_mem hi2)
      obtain ⟨r1, hr1q⟩ : ∃ r1, rs[i] = r1 := ⟨_, rfl⟩
      obtain ⟨r2, hr2q⟩ : ∃ r2, rs[i + 1] = r2 := ⟨_, rfl⟩
      rw [hr1q] at c0 c1 hn1 hst
      rw [hr2q] at e0 e1 hn2 hst
      have hAa : A.add ((i + 1) * 2) = ⟨A.block, A.off + 2 + i * 2, none⟩ := by rw [add_one_of A _ (by omega)]; congr 1; omega
      rw [hAa] at e0 e1
      simp only at e1
      obtain ⟨f1, hf1⟩ : ∃ f, F r1 = f := ⟨_, rfl⟩
      obtain ⟨⟨x1, y1⟩, R1⟩ := f1
      obtain ⟨f2, hf2⟩ : ∃ f, F r2 = f := ⟨_, rfl⟩
      obtain ⟨⟨x2, y2⟩, R2⟩ := f2
      rw [hf1, hf2] at hst
      simp only at hst
      have ba := al1 wi (.cells #[.string (bb r2.1), .string (bb r2.2)] 58)
      have bb2 := al2 wi (.cells #[.string (bb r2.1), .string (bb r2.2)] 58) (.cells #[.int .i64 x1, .int .i64 y1] 117)
      have bc3 := al3 wi (.cells #[.string (bb r2.1), .string (bb r2.2)] 58) (.cells #[.int .i64 x1, .int .i64 y1] 117) (.cells #[.int .i64 x2, .int .i64 y2] 117)
      have lk1 := (HEM.out.keep ba).look r1 (sm_16 hn1) hf1
      have lk2 := (HEM.out.keep bb2).look r2 (sm_16 hn2) hf2
      have t0 : (wi.alloc (.cells #[.string (bb r2.1), .string (bb r2.2)] 58)).cell? ⟨G, 0, none⟩ = some (.slice (some A) rs.length rc) := by rw [blk_cell (blk_below HTI.out ba)]; rfl
      have c0' := cell_later' ba c0
      have c1' := cell_later' ba c1
      have HS6 := Lib.hid (HSI.out.below bc3)
      have HE6 := Lib.hid (HEM.out.keep bc3)
      have HT6 := Lib.hid (blk_below HTI.out bc3)
      have HU := Lib.hid (by have h := blk_below (blk_new (wi.alloc (.cells #[.string (bb r2.1), .string (bb r2.2)] 58)) #[.int .i64 x1, .int .i64 y1] 117) (al1 _ (.cells #[.int .i64 x2, .int .i64 y2] 117)); rw [World.size_alloc] at h; exact h)
      have HV := Lib.hid (by have h := blk_new ((wi.alloc (.cells #[.string (bb r2.1), .string (bb r2.2)] 58)).alloc (.cells #[.int .i64 x1, .int .i64 y1] 117)) #[.int .i64 x2, .int .i64 y2] 117; rw [World.size_alloc, World.size_alloc] at h; exact h)
      have HST := Lib.hid hst
      have j0 : (0 : Int) ≤ (i : Int) := by omega
      have j1 : (i : Int) < (rs.length : Int) := by omega
      have j2 : (i : Int) < ((rs.length - 1 : Nat) : Int) := by omega
      obtain ⟨eo, ec, hev, -, -⟩ := own_form HS6.out.er
      subst hev
      have b3 : (((wi.alloc (.cells #[.string (bb r2.1), .string (bb r2.2)] 58)).alloc (.cells #[.int .i64 x1, .int .i64 y1] 117)).alloc (.cells #[.int .i64 x2, .int .i64 y2] 117)).cell? ⟨b, 3, none⟩ = some (.slice eo es'.length ec) := by rw [blk_cell HS6.out.box]; rfl
      clear ba bb2 bc3 hst hn1 hn2 hr1q hr2q hf1 hf2 hAa HSI HEM HTI HRC'
      cases R1
      case false =>
        have HRE : Hid (RC = (es', false)) := Lib.hid (by have h := HST.out; rw [if_pos (Or.inl rfl)] at h; exact h)
        have HRS2 : Hid (RS.2 = false) := Lib.hid (by have h := HDR.out; rw [HRE.out] at h; rw [if_pos rfl] at h; rw [h])
        go_wp2
        go_ret
        exact ⟨by rw [HRS2.out]; rfl, HS6.out.old, fun q => absurd (HRS2.out.symm.trans q) (by decide)⟩
      cases R2
      case false =>
        have HRE : Hid (RC = (es', false)) := Lib.hid (by have h := HST.out; rw [if_pos (Or.inr rfl)] at h; exact h)
        have HRS2 : Hid (RS.2 = false) := Lib.hid (by have h := HDR.out; rw [HRE.out] at h; rw [if_pos rfl] at h; rw [h])
        go_wp2
        go_ret
        exact ⟨by rw [HRS2.out]; rfl, HS6.out.old, fun q => absurd (HRS2.out.symm.trans q) (by decide)⟩
      by_cases h256 : es'.length ≤ 256
      case neg =>
        have dlen : decide ((es'.length : Int) ≤ 256) = false := decide_eq_false (by omega)
        have HN : Hid (edgC F lb wt ln (rs.drop (i + 1)) es' = RC) := Lib.hid (by have h := HST.out; rw [if_neg (by simp), if_neg h256] at h; exact h.symm)
        clear h256
        go_wp2
        go_roundw
        case rel => exact ⟨i + 1, es', _, by go_num, by omega, HS6.out, HE6.out, HN.out, hel', HT6.out⟩
        case measure => simp [intOf]; omega
      have dlen : decide ((es'.length : Int) ≤ 256) = true := decide_eq_true (by omega)
      have HN : Hid (edgC F lb wt ln (rs.drop (i + 1)) (es' ++ [⟨x1, x2, y1, y2, lb, wt, ln⟩]) = RC) := Lib.hid (by have h := HST.out; rw [if_neg (by simp), if_pos h256] at h; exact h.symm)
      have h256b := Lib.hid h256
      go_wp2_with fail
      clear lk1 lk2 t0 c0 c1 c0' c1' e0 e1 b3 dlen h256
      generalize ((wi.alloc (.cells #[.string (bb r2.1), .string (bb r2.2)] 58)).alloc (.cells #[.int .i64 x1, .int .i64 y1] 117)).alloc (.cells #[.int .i64 x2, .int .i64 y2] 117) = W6 at *
      obtain ⟨i9, hi0, hz0, hz1, hz2⟩ := info_of info_ed
      have hbase := HS6.out.base
      have hc3 : W6.cell? ⟨b, 3, none⟩ = some (.slice eo es'.length ec) := by rw [blk_cell HS6.out.box]; rfl
      have m0 : W6.cell? ⟨wi.heap.size + 1, 0, none⟩ = some (.int .i64 x1) := by rw [blk_cell HU.out]; rfl
      have m1 : W6.cell? ⟨wi.heap.size + 1, 1, none⟩ = some (.int .i64 y1) := by rw [blk_cell HU.out]; rfl
      have m2 : W6.cell? ⟨wi.heap.size + 1 + 1, 0, none⟩ = some (.int .i64 x2) := by rw [blk_cell HV.out]; rfl
      have m3 : W6.cell? ⟨wi.heap.size + 1 + 1, 1, none⟩ = some (.int .i64 y2) := by rw [blk_cell HV.out]; rfl
      have hblt : wi.heap.size + 1 ≠ b := by omega
      have hblt2 : wi.heap.size + 1 + 1 ≠ b := by omega
      obtain ⟨H1, hH1⟩ : ∃ H1, wi.heap.size + 1 = H1 := ⟨_, rfl⟩
      obtain ⟨H2, hH2⟩ : ∃ H2, H1 + 1 = H2 := ⟨_, rfl⟩
      rw [hH1] at HU m0 m1 hblt
      rw [hH1, hH2] at HV m2 m3 hblt2
      simp only [hH1, hH2]
      clear hH1 hH2
      refine wp_region_held_drew (S := (fun W : World => W.cell? ⟨H1, 0, none⟩ = some (.int .i64 x1) ∧ W.cell? ⟨H1, 1, none⟩ = some (.int .i64 y1) ∧ W.cell? ⟨H2, 0, none⟩ = some (.int .i64 x2) ∧ W.cell? ⟨H2, 1, none⟩ = some (.int .i64 y2))) (by kernel_rfl) (⟨s_drew m0, s_drew m1, s_drew m2, s_drew m3⟩) (fun hHeld => ?_)
      refine take_on 0 77 (.pointer (some ⟨b, 0, none⟩)) rfl (by kernel_rfl) (by kernel_rfl) (by kernel_rfl) (fun _ _ _ _ _ h => h) ?_ (by assumption) ?_
      · (rintro oi h; cases h; refine ⟨by rfl, ?_⟩; intro W hSw; (try dsimp only at hSw); obtain ⟨hs0, hs1, hs2, hs3⟩ := hSw
         go_simp)
      try simp only [List.setIfInBounds_toArray, List.set_cons_zero, List.set_cons_succ]
      refine take_on 1 78 (.pointer (some ⟨b, 0, none⟩)) rfl (by kernel_rfl) (by kernel_rfl) (by kernel_rfl) (fun _ _ _ _ _ h => h) ?_ (by assumption) ?_
      · (rintro oi h; cases h; refine ⟨by rfl, ?_⟩; intro W hSw; (try dsimp only at hSw); obtain ⟨hs0, hs1, hs2, hs3⟩ := hSw
         go_simp)
      try simp only [List.setIfInBounds_toArray, List.set_cons_zero, List.set_cons_succ]
      refine take_on 2 79 (.pointer (some ⟨b, 0, none⟩)) rfl (by kernel_rfl) (by kernel_rfl) (by kernel_rfl) (fun _ _ _ _ _ h => h) ?_ (by assumption) ?_
      · (rintro oi h; cases h; refine ⟨by rfl, ?_⟩; intro W hSw; (try dsimp only at hSw); obtain ⟨hs0, hs1, hs2, hs3⟩ := hSw
         go_simp)
      try simp only [List.setIfInBounds_toArray, List.set_cons_zero, List.set_cons_succ]
      refine take_on 3 80 (.pointer (some ⟨b, 0, none⟩)) rfl (by kernel_rfl) (by kernel_rfl) (by kernel_rfl) (fun _ _ _ _ _ h => h) ?_ (by assumption) ?_
      · (rintro oi h; cases h; refine ⟨by rfl, ?_⟩; intro W hSw; (try dsimp only at hSw); obtain ⟨hs0, hs1, hs2, hs3⟩ := hSw
         go_simp)
      try simp only [List.setIfInBounds_toArray, List.set_cons_zero, List.set_cons_succ]
      refine take_on 4 81 (.pointer (some ⟨b, 3, none⟩)) rfl (by kernel_rfl) (by kernel_rfl) (by kernel_rfl) (fun _ _ _ _ _ h => h) ?_ (by assumption) ?_
      · (rintro oi h; cases h; refine ⟨by rfl, ?_⟩; intro W hSw; (try dsimp only at hSw); obtain ⟨hs0, hs1, hs2, hs3⟩ := hSw
         go_simp)
      try simp only [List.setIfInBounds_toArray, List.set_cons_zero, List.set_cons_succ]
      refine take_on 6 83 (.pointer (some ⟨H1, 0, none⟩)) rfl (by kernel_rfl) (by kernel_rfl) (by kernel_rfl) (fun _ _ _ _ _ h => h) ?_ (by assumption) ?_
      · (rintro oi h; cases h; refine ⟨by rfl, ?_⟩; intro W hSw; (try dsimp only at hSw); obtain ⟨hs0, hs1, hs2, hs3⟩ := hSw
         go_simp)
      try simp only [List.setIfInBounds_toArray, List.set_cons_zero, List.set_cons_succ]
      refine take_on 7 84 (.int .i64 x1) rfl (by kernel_rfl) (by kernel_rfl) (by kernel_rfl) (fun _ _ _ _ _ h => h) ?_ (by assumption) ?_
      · (rintro oi h; cases h; refine ⟨by rfl, ?_⟩; intro W hSw; (try dsimp only at hSw); obtain ⟨hs0, hs1, hs2, hs3⟩ := hSw
         go_simp)
      try simp only [List.setIfInBounds_toArray, List.set_cons_zero, List.set_cons_succ]
      refine take_on 8 85 (.pointer (some ⟨H2, 0, none⟩)) rfl (by kernel_rfl) (by kernel_rfl) (by kernel_rfl) (fun _ _ _ _ _ h => h) ?_ (by assumption) ?_
      · (rintro oi h; cases h; refine ⟨by rfl, ?_⟩; intro W hSw; (try dsimp only at hSw); obtain ⟨hs0, hs1, hs2, hs3⟩ := hSw
         go_simp)
      try simp only [List.setIfInBounds_toArray, List.set_cons_zero, List.set_cons_succ]
      refine take_on 9 86 (.int .i64 x2) rfl (by kernel_rfl) (by kernel_rfl) (by kernel_rfl) (fun _ _ _ _ _ h => h) ?_ (by assumption) ?_
      · (rintro oi h; cases h; refine ⟨by rfl, ?_⟩; intro W hSw; (try dsimp only at hSw); obtain ⟨hs0, hs1, hs2, hs3⟩ := hSw
         go_simp)
      try simp only [List.setIfInBounds_toArray, List.set_cons_zero, List.set_cons_succ]
      refine take_on 10 87 (.pointer (some ⟨H1, 1, none⟩)) rfl (by kernel_rfl) (by kernel_rfl) (by kernel_rfl) (fun _ _ _ _ _ h => h) ?_ (by assumption) ?_
      · (rintro oi h; cases h; refine ⟨by rfl, ?_⟩; intro W hSw; (try dsimp only at hSw); obtain ⟨hs0, hs1, hs2, hs3⟩ := hSw
         go_simp)
      try simp only [List.setIfInBounds_toArray, List.set_cons_zero, List.set_cons_succ]
      refine take_on 11 88 (.int .i64 y1) rfl (by kernel_rfl) (by kernel_rfl) (by kernel_rfl) (fun _ _ _ _ _ h => h) ?_ (by assumption) ?_
      · (rintro oi h; cases h; refine ⟨by rfl, ?_⟩; intro W hSw; (try dsimp only at hSw); obtain ⟨hs0, hs1, hs2, hs3⟩ := hSw
         go_simp)
      try simp only [List.setIfInBounds_toArray, List.set_cons_zero, List.set_cons_succ]
      refine take_on 12 89 (.pointer (some ⟨H2, 1, none⟩)) rfl (by kernel_rfl) (by kernel_rfl) (by kernel_rfl) (fun _ _ _ _ _ h => h) ?_ (by assumption) ?_
      · (rintro oi h; cases h; refine ⟨by rfl, ?_⟩; intro W hSw; (try dsimp only at hSw); obtain ⟨hs0, hs1, hs2, hs3⟩ := hSw
         go_simp)
      try simp only [List.setIfInBounds_toArray, List.set_cons_zero, List.set_cons_succ]
      refine take_on 13 90 (.int .i64 y2) rfl (by kernel_rfl) (by kernel_rfl) (by kernel_rfl) (fun _ _ _ _ _ h => h) ?_ (by assumption) ?_
      · (rintro oi h; cases h; refine ⟨by rfl, ?_⟩; intro W hSw; (try dsimp only at hSw); obtain ⟨hs0, hs1, hs2, hs3⟩ := hSw
         go_simp)
      try simp only [List.setIfInBounds_toArray, List.set_cons_zero, List.set_cons_succ]
      refine take_on 14 91 (.string (bb lb)) rfl (by kernel_rfl) (by kernel_rfl) (by kernel_rfl) (fun _ _ _ _ _ h => h) ?_ (by assumption) ?_
      · (rintro oi h; cases h; refine ⟨by rfl, ?_⟩; intro W hSw; (try dsimp only at hSw); obtain ⟨hs0, hs1, hs2, hs3⟩ := hSw
         go_simp)
      try simp only [List.setIfInBounds_toArray, List.set_cons_zero, List.set_cons_succ]
      refine take_on 15 92 (.int .i64 wt) rfl (by kernel_rfl) (by kernel_rfl) (by kernel_rfl) (fun _ _ _ _ _ h => h) ?_ (by assumption) ?_
      · (rintro oi h; cases h; refine ⟨by rfl, ?_⟩; intro W hSw; (try dsimp only at hSw); obtain ⟨hs0, hs1, hs2, hs3⟩ := hSw
         go_simp)
      try simp only [List.setIfInBounds_toArray, List.set_cons_zero, List.set_cons_succ]
      refine take_on 16 93 (.int .i64 ln) rfl (by kernel_rfl) (by kernel_rfl) (by kernel_rfl) (fun _ _ _ _ _ h => h) ?_ (by assumption) ?_
      · (rintro oi h; cases h; refine ⟨by rfl, ?_⟩; intro W hSw; (try dsimp only at hSw); obtain ⟨hs0, hs1, hs2, hs3⟩ := hSw
         go_simp)
      try simp only [List.setIfInBounds_toArray, List.set_cons_zero, List.set_cons_succ]
      refine take_on 17 94 (.agg #[.int .i64 x1, .int .i64 x2, .int .i64 y1, .int .i64 y2, .string (bb lb), .int .i64 wt, .int .i64 ln]) rfl (by kernel_rfl) (by kernel_rfl) (by kernel_rfl) (fun _ _ _ _ _ h => h) ?_ (by assumption) ?_
      · (rintro oi h; cases h; refine ⟨by rfl, ?_⟩; intro W hSw; (try dsimp only at hSw); obtain ⟨hs0, hs1, hs2, hs3⟩ := hSw
         go_simp)
      try simp only [List.setIfInBounds_toArray, List.set_cons_zero, List.set_cons_succ]
      refine wpAnyH_ready (rs := [5, 18]) (by kernel_rfl) (by simp) ?_
      refine AllReadyH.cons rfl (fun K hK => ?_) (AllReadyH.cons rfl (fun K hK => ?_) AllReadyH.nil)
      ·
        go_simp
        refine hK.out _ _ ⟨s_drew m0, s_drew m1, s_drew m2, s_drew m3⟩ (fun hHeld => ?_)
        clear hK K
        try simp only [List.setIfInBounds_toArray, List.set_cons_zero, List.set_cons_succ]
        refine wpAnyH_ready (rs := [18]) (by kernel_rfl) (by simp) ?_
        refine AllReadyH.cons rfl (fun K hK => ?_) AllReadyH.nil
        go_simp
        refine hK.out _ _ ⟨s_alloc (s_drew m0), s_alloc (s_drew m1), s_alloc (s_drew m2), s_alloc (s_drew m3)⟩ (fun hHeld => ?_)
        clear hK K
        try simp only [List.setIfInBounds_toArray, List.set_cons_zero, List.set_cons_succ]
        refine wpAnyH_ready (rs := [19]) (by kernel_rfl) (by simp) ?_
        refine AllReadyH.cons rfl (fun K hK => ?_) AllReadyH.nil
        refine step_append_lies _ (by rfl) _ _ _ (by rfl) w0.heap.size 60 i9 _ 7 64 Tryz.underlying28 hi0 hz0 hz1 hz2 rfl (by omega) (.slice eo es'.length ec) es'.length (es'.flatMap edC) (by rfl) (by exact row_below HS6.out.er (by repeat (first | (with_reducible exact Below.refl _ _) | (with_reducible refine Below.drew ?_) | (with_reducible refine b_allocN ?_ ?_) | (simp; done) | omega))) ⟨W6.heap.size, 0, none⟩ 1 1 [.int .i64 x1, .int .i64 x2, .int .i64 y1, .int .i64 y2, .string (bb lb), .int .i64 wt, .int .i64 ln] (by rfl) (by rfl) (by exact World.news_of_block (cs := #[.int .i64 x1, .int .i64 x2, .int .i64 y1, .int .i64 y2, .string (bb lb), .int .i64 wt, .int .i64 ln]) (t := 60) (fr := (0, 0)) (heap_alloc_new _ _)) (by simp [Value.oneCell']) (by omega) (by unfold maxLen; omega) (by omega) (by simp; omega) (W6.heap.size + 1) (by simp) ?_
        intro gg cap1 w7 hown1 hgrow hat1 hlt7
        obtain ⟨⟨hx1, hst5⟩, hs5, hst6⟩ := HS6.out.growD (e := ⟨x1, x2, y1, y2, lb, wt, ln⟩) (by exact (by repeat (first | (with_reducible exact Below.refl _ _) | (with_reducible refine Below.drew ?_) | (with_reducible refine b_allocN ?_ ?_) | (simp; done) | omega))) hgrow (by show World.ownsRow _ _ _ _ _ (es' ++ [_]).length _; rw [List.length_append, List.flatMap_append]; exact hown1)
        have hfz := hx1.open 3
        have hc9 : w7.cell? ⟨b, 3, none⟩ = some (.slice eo es'.length ec) := by rw [blk_cell hx1]; rfl
        have HS7 := Lib.hid hs5
        have HE7 := Lib.hid (hst6.emap HE6.out)
        have HT7 := Lib.hid (hst6.blk HT6.out (by decide) (by decide))
        have n0 : w7.cell? ⟨H1, 0, none⟩ = some (.int .i64 x1) := by rw [blk_cell (hst5.blk HU.out (by decide) (by decide))]; rfl
        have n1 : w7.cell? ⟨H1, 1, none⟩ = some (.int .i64 y1) := by rw [blk_cell (hst5.blk HU.out (by decide) (by decide))]; rfl
        have n2 : w7.cell? ⟨H2, 0, none⟩ = some (.int .i64 x2) := by rw [blk_cell (hst5.blk HV.out (by decide) (by decide))]; rfl
        have n3 : w7.cell? ⟨H2, 1, none⟩ = some (.int .i64 y2) := by rw [blk_cell (hst5.blk HV.out (by decide) (by decide))]; rfl
        clear hs5 hst5 hst6 hx1
        refine hK.out _ _ ⟨n0, n1, n2, n3⟩ (fun hHeld => ?_)
        clear hK K
        try simp only [List.setIfInBounds_toArray, List.set_cons_zero, List.set_cons_succ]
        refine take_on 20 97 (.pointer (some ⟨b, 0, none⟩)) rfl (by kernel_rfl) (by kernel_rfl) (by kernel_rfl) (fun _ _ _ _ _ h => h) ?_ (by assumption) ?_
        · (rintro oi h; cases h; refine ⟨by rfl, ?_⟩; intro W hSw; (try dsimp only at hSw); obtain ⟨hs0, hs1, hs2, hs3⟩ := hSw
           go_simp)
        try simp only [List.setIfInBounds_toArray, List.set_cons_zero, List.set_cons_succ]
        refine take_on 21 98 (.pointer (some ⟨b, 0, none⟩)) rfl (by kernel_rfl) (by kernel_rfl) (by kernel_rfl) (fun _ _ _ _ _ h => h) ?_ (by assumption) ?_
        · (rintro oi h; cases h; refine ⟨by rfl, ?_⟩; intro W hSw; (try dsimp only at hSw); obtain ⟨hs0, hs1, hs2, hs3⟩ := hSw
           go_simp)
        refine take_on 22 99 (.pointer (some ⟨b, 3, none⟩)) rfl (by kernel_rfl) (by kernel_rfl) (by kernel_rfl) (fun _ _ _ _ _ h => h) ?_ (by assumption) ?_
        · (rintro oi h; cases h; refine ⟨by rfl, ?_⟩; intro W hSw; (try dsimp only at hSw); obtain ⟨hs0, hs1, hs2, hs3⟩ := hSw
           go_simp)
        refine wpAnyH_ready (rs := [23]) (by kernel_rfl) (by simp) ?_
        refine AllReadyH.cons rfl (fun K hK => ?_) AllReadyH.nil
        go_simp
        refine hK.out _ _ ⟨s_set (by simp only; omega) n0, s_set (by simp only; omega) n1, s_set (by simp only; omega) n2, s_set (by simp only; omega) n3⟩ (fun hHeld => ?_)
        clear hK K
        try simp only [List.setIfInBounds_toArray, List.set_cons_zero, List.set_cons_succ]
        refine wpAnyH_done (by kernel_rfl) ?_ _
        have HLE : Hid ((es' ++ [(⟨x1, x2, y1, y2, lb, wt, ln⟩ : gra.Ed)]).length ≤ 257) := Lib.hid (by rw [List.length_append, List.length_singleton]; have := h256b.out; omega)
        go_wp2
        go_roundw
        case rel => exact ⟨i + 1, _, _, by go_num, by omega, HS7.out, HE7.out, HN.out, HLE.out, HT7.out⟩
        case measure => simp [intOf]; omega
      ·
        go_simp
        refine hK.out _ _ ⟨s_alloc (s_drew m0), s_alloc (s_drew m1), s_alloc (s_drew m2), s_alloc (s_drew m3)⟩ (fun hHeld => ?_)
        clear hK K
        try simp only [List.setIfInBounds_toArray, List.set_cons_zero, List.set_cons_succ]
        have hc3a : ((W6.alloc (.cells #[.int .i64 x1, .int .i64 x2, .int .i64 y1, .int .i64 y2, .string (bb lb), .int .i64 wt, .int .i64 ln] 60)).drew).cell? ⟨b, 3, none⟩ = some (.slice eo es'.length ec) := s_alloc (o := .cells #[.int .i64 x1, .int .i64 x2, .int .i64 y1, .int .i64 y2, .string (bb lb), .int .i64 wt, .int .i64 ln] 60) hc3
        refine wpAnyH_ready (rs := [5]) (by kernel_rfl) (by simp) ?_
        refine AllReadyH.cons rfl (fun K hK => ?_) AllReadyH.nil
        go_simp
        refine hK.out _ _ ⟨s_alloc (s_drew m0), s_alloc (s_drew m1), s_alloc (s_drew m2), s_alloc (s_drew m3)⟩ (fun hHeld => ?_)
        clear hK K
        try simp only [List.setIfInBounds_toArray, List.set_cons_zero, List.set_cons_succ]
        refine wpAnyH_ready (rs := [19]) (by kernel_rfl) (by simp) ?_
        refine AllReadyH.cons rfl (fun K hK => ?_) AllReadyH.nil
        refine step_append_lies _ (by rfl) _ _ _ (by rfl) w0.heap.size 60 i9 _ 7 64 Tryz.underlying28 hi0 hz0 hz1 hz2 rfl (by omega) (.slice eo es'.length ec) es'.length (es'.flatMap edC) (by rfl) (by exact row_below HS6.out.er (by repeat (first | (with_reducible exact Below.refl _ _) | (with_reducible refine Below.drew ?_) | (with_reducible refine b_allocN ?_ ?_) | (simp; done) | omega))) ⟨W6.heap.size, 0, none⟩ 1 1 [.int .i64 x1, .int .i64 x2, .int .i64 y1, .int .i64 y2, .string (bb lb), .int .i64 wt, .int .i64 ln] (by rfl) (by rfl) (by exact World.news_of_block (cs := #[.int .i64 x1, .int .i64 x2, .int .i64 y1, .int .i64 y2, .string (bb lb), .int .i64 wt, .int .i64 ln]) (t := 60) (fr := (0, 0)) (heap_alloc_new _ _)) (by simp [Value.oneCell']) (by omega) (by unfold maxLen; omega) (by omega) (by simp; omega) (W6.heap.size + 1) (by simp) ?_
        intro gg cap1 w7 hown1 hgrow hat1 hlt7
        obtain ⟨⟨hx1, hst5⟩, hs5, hst6⟩ := HS6.out.growD (e := ⟨x1, x2, y1, y2, lb, wt, ln⟩) (by exact (by repeat (first | (with_reducible exact Below.refl _ _) | (with_reducible refine Below.drew ?_) | (with_reducible refine b_allocN ?_ ?_) | (simp; done) | omega))) hgrow (by show World.ownsRow _ _ _ _ _ (es' ++ [_]).length _; rw [List.length_append, List.flatMap_append]; exact hown1)
        have hfz := hx1.open 3
        have hc9 : w7.cell? ⟨b, 3, none⟩ = some (.slice eo es'.length ec) := by rw [blk_cell hx1]; rfl
        have HS7 := Lib.hid hs5
        have HE7 := Lib.hid (hst6.emap HE6.out)
        have HT7 := Lib.hid (hst6.blk HT6.out (by decide) (by decide))
        have n0 : w7.cell? ⟨H1, 0, none⟩ = some (.int .i64 x1) := by rw [blk_cell (hst5.blk HU.out (by decide) (by decide))]; rfl
        have n1 : w7.cell? ⟨H1, 1, none⟩ = some (.int .i64 y1) := by rw [blk_cell (hst5.blk HU.out (by decide) (by decide))]; rfl
        have n2 : w7.cell? ⟨H2, 0, none⟩ = some (.int .i64 x2) := by rw [blk_cell (hst5.blk HV.out (by decide) (by decide))]; rfl
        have n3 : w7.cell? ⟨H2, 1, none⟩ = some (.int .i64 y2) := by rw [blk_cell (hst5.blk HV.out (by decide) (by decide))]; rfl
        clear hs5 hst5 hst6 hx1
        refine hK.out _ _ ⟨n0, n1, n2, n3⟩ (fun hHeld => ?_)
        clear hK K
        try simp only [List.setIfInBounds_toArray, List.set_cons_zero, List.set_cons_succ]
        refine take_on 20 97 (.pointer (some ⟨b, 0, none⟩)) rfl (by kernel_rfl) (by kernel_rfl) (by kernel_rfl) (fun _ _ _ _ _ h => h) ?_ (by assumption) ?_
        · (rintro oi h; cases h; refine ⟨by rfl, ?_⟩; intro W hSw; (try dsimp only at hSw); obtain ⟨hs0, hs1, hs2, hs3⟩ := hSw
           go_simp)
        try simp only [List.setIfInBounds_toArray, List.set_cons_zero, List.set_cons_succ]
        refine take_on 21 98 (.pointer (some ⟨b, 0, none⟩)) rfl (by kernel_rfl) (by kernel_rfl) (by kernel_rfl) (fun _ _ _ _ _ h => h) ?_ (by assumption) ?_
        · (rintro oi h; cases h; refine ⟨by rfl, ?_⟩; intro W hSw; (try dsimp only at hSw); obtain ⟨hs0, hs1, hs2, hs3⟩ := hSw
           go_simp)
        refine take_on 22 99 (.pointer (some ⟨b, 3, none⟩)) rfl (by kernel_rfl) (by kernel_rfl) (by kernel_rfl) (fun _ _ _ _ _ h => h) ?_ (by assumption) ?_
        · (rintro oi h; cases h; refine ⟨by rfl, ?_⟩; intro W hSw; (try dsimp only at hSw); obtain ⟨hs0, hs1, hs2, hs3⟩ := hSw
           go_simp)
        refine wpAnyH_ready (rs := [23]) (by kernel_rfl) (by simp) ?_
        refine AllReadyH.cons rfl (fun K hK => ?_) AllReadyH.nil
        go_simp
        refine hK.out _ _ ⟨s_set (by simp only; omega) n0, s_set (by simp only; omega) n1, s_set (by simp only; omega) n2, s_set (by simp only; omega) n3⟩ (fun hHeld => ?_)
        clear hK K
        try simp only [List.setIfInBounds_toArray, List.set_cons_zero, List.set_cons_succ]
        refine wpAnyH_done (by kernel_rfl) ?_ _
        have HLE : Hid ((es' ++ [(⟨x1, x2, y1, y2, lb, wt, ln⟩ : gra.Ed)]).length ≤ 257) := Lib.hid (by rw [List.length_append, List.length_singleton]; have := h256b.out; omega)
        go_wp2
        go_roundw
        case rel => exact ⟨i + 1, _, _, by go_num, by omega, HS7.out, HE7.out, HN.out, HLE.out, HT7.out⟩
        case measure => simp [intOf]; omega
end Go.Proofs.YtcdoicgbjoikkaaGreatDoor.nor
