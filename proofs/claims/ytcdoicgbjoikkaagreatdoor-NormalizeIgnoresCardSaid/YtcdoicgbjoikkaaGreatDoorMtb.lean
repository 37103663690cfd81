/-
  What stmts and few of the statements of layer 7 return. Conditions: trees in memory.
  What Preorder of the reference of layer 7 returns: the statements in preorder, each with its level, their lists where the tree has them. Conditions: a tree of at most 600 statements in memory; a small level.
  What fields of the reference of layer 7 returns. Condition: the lists lie in memory.
-/
import Derived.Test.YtcdoicgbjoikkaaGreatDoorMta
import Derived.Laws.OwnMore
namespace Go.Proofs.YtcdoicgbjoikkaaGreatDoor.tre
open Go.RowKit lex

theorem drop_st {l : List St} {k : Nat} (h : k < l.length) : l.drop k = l[k] :: l.drop (k + 1) := List.drop_eq_getElem_cons h
/-- The cells of the k-th statement of a slice. -/
theorem Sts.get {w : World} {ao : Option Addr} {n cap : Nat} {l : List St} (h : Sts w (.slice ao n cap) l) {k : Nat} (hk : k < l.length) : ∃ A, ao = some A ∧ stAt w l[k] (A.add (k * 5)) := by
  obtain ⟨ao', cap', e, _, _, hA⟩ := h
  cases e
  obtain ⟨A, rfl, h2⟩ := hA (by omega)
  exact ⟨A, rfl, by have := stsAt_get h2 k hk; rwa [Nat.zero_add] at this⟩
/-- What holds of a list if it holds of the bodies of its statements holds of all lists. -/
theorem lst_ind {P : List St → Prop} (step : ∀ l, (∀ s ∈ l, P s.body) → P l) (l : List St) : P l :=
  ((st_ind (P := fun s => P s.body) (Q := fun l => (∀ s ∈ l, P s.body) ∧ P l) (fun _ _ _ _ _ h => h.2) ⟨fun _ h => (by cases h), step [] (fun _ h => (by cases h))⟩
    (fun s t hs ht => (fun h => ⟨h, step _ h⟩) (fun x hx => by rcases List.mem_cons.1 hx with rfl | hx; exact hs; exact ht.1 x hx))).2 l).2
end Go.Proofs.YtcdoicgbjoikkaaGreatDoor.tre
namespace Go.Proofs.YtcdoicgbjoikkaaGreatDoor.tre
open Go.RowKit lex

/-- A statement with its level, and the values that hold its lists. -/
structure FV where
  s : St
  lv : Int
  rv : Value
  av : Value
  bv : Value
def cellsF (f : FV) : List Value := [.int .i64 f.s.kind, .string (bb f.s.name), f.rv, f.av, f.bv, .int .i64 f.lv]
def flatF (l : List FV) : List Value := l.flatMap cellsF
theorem flatF_app (a b : List FV) : flatF (a ++ b) = flatF a ++ flatF b := by unfold flatF; rw [List.flatMap_append]
theorem flatF_one (f : FV) : flatF [f] = cellsF f := by unfold flatF; simp
theorem flatF_length (l : List FV) : (flatF l).length = l.length * 6 := by
  induction l with
  | nil => rfl
  | cons a t ih => unfold flatF at *; rw [List.flatMap_cons, List.length_append, ih]; simp [cellsF]; omega
theorem flatF_get : ∀ (l : List FV) (i : Nat) (h : i < l.length) (j : Nat) (u : Value), (cellsF l[i])[j]? = some u → (flatF l)[i * 6 + j]? = some u
  | [], i, h, _, _, _ => absurd h (by simp)
  | a :: t, 0, _, j, u, hj => by
    have hl : (cellsF a).length = 6 := rfl
    have hjl : j < 6 := by have := (List.getElem?_eq_some_iff.1 hj).1; rw [show (a :: t)[0] = a from rfl, hl] at this; exact this
    have e : flatF (a :: t) = cellsF a ++ flatF t := by unfold flatF; rw [List.flatMap_cons]
    rw [e, Nat.zero_mul, Nat.zero_add, List.getElem?_append_left (by omega)]
    exact hj
  | a :: t, i + 1, h, j, u, hj => by
    have ih := flatF_get t i (by simpa using h) j u hj
    have hl : (cellsF a).length = 6 := rfl
    have e : flatF (a :: t) = cellsF a ++ flatF t := by unfold flatF; rw [List.flatMap_cons]
    rw [e, List.getElem?_append_right (by omega), hl, show (i + 1) * 6 + j - 6 = i * 6 + j by omega]
    exact ih
def fvOk (w : World) (f : FV) : Prop := f.s.name.length ≤ maxLen ∧ Prs w f.rv f.s.refs ∧ Prs w f.av f.s.attrs ∧ Sts w f.bv f.s.body
theorem fvOk.keep {w1 w2 : World} {f : FV} (h : fvOk w1 f) (hb : Below w1.heap.size w1 w2) : fvOk w2 f := ⟨h.1, h.2.1.keep hb, h.2.2.1.keep hb, h.2.2.2.keep hb⟩
theorem prs_one {w : World} {v : Value} {l : List Pr} (h : Prs w v l) : v.oneCell' = true := by obtain ⟨_, _, rfl, _⟩ := h; rfl
theorem sts_one {w : World} {v : Value} {l : List St} (h : Sts w v l) : v.oneCell' = true := by obtain ⟨_, _, rfl, _⟩ := h; rfl
theorem cellsF_one {w : World} {f : FV} (h : fvOk w f) : ∀ u ∈ cellsF f, u.oneCell' = true := by
  intro u hu
  simp only [cellsF, List.mem_cons, List.not_mem_nil, or_false] at hu
  rcases hu with rfl | rfl | rfl | rfl | rfl | rfl
  · rfl
  · rfl
  · exact prs_one h.2.1
  · exact prs_one h.2.2.1
  · exact sts_one h.2.2.2
  · rfl
theorem flatF_one' {w : World} {l : List FV} (h : ∀ f ∈ l, fvOk w f) : ∀ u ∈ flatF l, u.oneCell' = true := by
  intro u hu
  obtain ⟨f, hf, hu⟩ := List.mem_flatMap.1 hu
  exact cellsF_one (h f hf) u hu
theorem info_flat : (Tryz.prog.info? 98).map (fun i => (i.zero, i.size, i.bytes)) = some (some (.agg #[.int .i64 0, .string ⟨#[]⟩, .slice none 0 0, .slice none 0 0, .slice none 0 0, .int .i64 0]), 6, 104) := by kernel_rfl
theorem info_flat6 : ∃ i, Tryz.prog.info? 98 = some i ∧ i.zero = some (.agg #[.int .i64 0, .string ⟨#[]⟩, .slice none 0 0, .slice none 0 0, .slice none 0 0, .int .i64 0]) ∧ i.size = 6 ∧ i.bytes = 104 := by
  have h := info_flat
  cases hq : Tryz.prog.info? 98 with
  | none => rw [hq] at h; cases h
  | some i =>
    rw [hq] at h
    simp only [Option.map_some, Option.some.injEq, Prod.mk.injEq] at h
    exact ⟨i, rfl, h.1, h.2.1, h.2.2⟩
theorem cell6_new (w : World) (a b c d e f : Value) (t : TypeId) : ∀ j u, [a, b, c, d, e, f][j]? = some u → (w.alloc (.cells #[a, b, c, d, e, f] t)).cell? ((⟨w.heap.size, 0, none⟩ : Addr).add j) = some u := by
  intro j u hj
  match j, hj with
  | 0, hj => simp at hj; subst hj; simp [Addr.add]
  | 1, hj => simp at hj; subst hj; simp [Addr.add]
  | 2, hj => simp at hj; subst hj; simp [Addr.add]
  | 3, hj => simp at hj; subst hj; simp [Addr.add]
  | 4, hj => simp at hj; subst hj; simp [Addr.add]
  | 5, hj => simp at hj; subst hj; simp [Addr.add]
  | (j + 6), hj => simp at hj
/-- What Preorder leaves: w0 is the world in which the tree was read. -/
def PreOut (w0 : World) (l : List St) (lv : Int) (w : World) (e : Ending) (w' : World) : Prop := ∃ (g cap : Nat) (F : List FV), e = .returned (.slice (some ⟨g, 0, none⟩) F.length cap) ∧
  w'.ownsRow w.heap.size 98 6 (.slice (some ⟨g, 0, none⟩) F.length cap) F.length (flatF F) ∧ F.map (fun f => (f.s, f.lv)) = preL l lv ∧ (∀ f ∈ F, fvOk w0 f) ∧ Below w.heap.size w w'
def PreOk (l : List St) : Prop := ∀ (w0 w : World) (v : Value) (lv : Int), Below w0.heap.size w0 w → Sts w0 v l → cnt l ≤ 600 → 0 ≤ lv → lv + cnt l ≤ 1000 →
  Calls Tryz.prog 47 #[v, .int .i64 lv] w (PreOut w0 l lv w)
theorem cnt_app (a b : List St) : cnt (a ++ b) = cnt a + cnt b := by unfold cnt; rw [preL_app, List.length_append]
theorem cnt_take {l : List St} {k : Nat} (h : k < l.length) : cnt (l.take k) + 1 + cnt l[k].body ≤ cnt l ∧ l.take (k + 1) = l.take k ++ [l[k]] := by
  have e : l.take (k + 1) = l.take k ++ [l[k]] := by rw [List.take_add_one, List.getElem?_eq_getElem h]; rfl
  refine ⟨?_, e⟩
  have h2 : cnt l = cnt (l.take k) + cnt (l.drop k) := by rw [← cnt_app, List.take_append_drop]
  rw [h2, drop_st h, cnt_cons]
  omega
set_option maxRecDepth 100000 in
set_option maxHeartbeats 8000000 in
theorem pre_step (l : List St) (ih : ∀ s ∈ l, PreOk s.body) : PreOk l := by
  intro w0 w v lv hw hs hcn h0 h1
  obtain ⟨i0, hi, hz0, hz1, hz2⟩ := info_flat6
  have hs' := hs
  obtain ⟨ao, cap, rfl, hc, hm, _⟩ := hs'
  have HS := Lib.hid hs
  have IH := Lib.hid ih
  unfold maxLen at hm
  have hlm : l.length ≤ 9223372036854775807 := by omega
  clear hs ih hc hm
  go_enter Tryz.func47, Tryz.ntmps47
  go_wp2_with fail
  go_loopw [5, 6] (fun out iv wr => ∃ (g oc : Nat) (F : List FV) (k : Nat), out = .slice (some ⟨g, 0, none⟩) F.length oc ∧ iv = .int .i64 k ∧ k ≤ l.length ∧ wr.ownsRow w.heap.size 98 6 (.slice (some ⟨g, 0, none⟩) F.length oc) F.length (flatF F) ∧
    F.map (fun f => (f.s, f.lv)) = preL (l.take k) lv ∧ (∀ f ∈ F, fvOk w0 f) ∧ Below w.heap.size w wr) (fun _ iv _ => l.length - (intOf iv).toNat)
  case atStart =>
    exact ⟨w.heap.size, 0, [], 0, rfl, rfl, Nat.zero_le _, World.ownsRow_lit (e := 98) (size := 6) w #[] 0 (Nat.le_refl _) (by decide) rfl, rfl, fun f hf => (by cases hf), al1 ..⟩
  case round =>
    obtain ⟨g, oc, F, k, rfl, rfl, hk, hown, hF, hfv, hB⟩ := hrel
    rename World => wr
    have HO := Lib.hid hown
    have HF := Lib.hid hF
    have HFV := Lib.hid hfv
    have hsz := hB.size
    clear hown hF hfv
    have hFl : F.length = cnt (l.take k) := by have := congrArg List.length HF.out; rw [List.length_map] at this; rw [this]; exact pre_len.2 _ _ _
    by_cases hlt : k < l.length
    · obtain ⟨hct, htk⟩ := cnt_take hlt
      have hB0 : Below w0.heap.size w0 wr := hw.trans (hB.mono hw.size)
      obtain ⟨A, rfl, hst0⟩ := HS.out.get hlt
      have hst := (st_keep hB0).1 _ _ hst0
      obtain ⟨c0, c1, hnl, ⟨rv, c2, hrv⟩, ⟨av, c3, hav⟩, bv, c4, hbv⟩ := (stAt_eq _ _ _).1 hst
      obtain ⟨_, _, _, ⟨rv', c2', hrv0⟩, ⟨av', c3', hav0⟩, bv', c4', hbv0⟩ := (stAt_eq _ _ _).1 hst0
      obtain rfl : rv' = rv := Option.some.inj ((cell_later' hB0 c2').symm.trans c2)
      obtain rfl : av' = av := Option.some.inj ((cell_later' hB0 c3').symm.trans c3)
      obtain rfl : bv' = bv := Option.some.inj ((cell_later' hB0 c4').symm.trans c4)
      have HNF : Hid (fvOk w0 ⟨l[k], lv, rv', av', bv'⟩) := Lib.hid ⟨hnl, hrv0, hav0, hbv0⟩
      have HBV0 := Lib.hid hbv0
      have hone := cellsF_one HNF.out
      have HONE := Lib.hid hone
      have hPre := IH.out l[k] (List.getElem_mem hlt)
      have HPRE := Lib.hid hPre
      have HPL : Hid (preL (l.take (k + 1)) lv = preL (l.take k) lv ++ ((l[k], lv) :: preL l[k].body (if l[k].kind = 5 then lv + 1 else lv))) := Lib.hid (by
        rw [htk, preL_app, preL_cons, preL_nil, List.append_nil, preS_eq])
      have k0 := ((stAt_eq _ _ _).1 hst0).1
      have k4 := c4'
      clear hrv hav hbv hrv0 hav0 hbv0 hst hst0 c2' c3' c4' hone hPre htk
      have z0 : (0 : Int) ≤ (k : Int) := by omega
      have z1 : (k : Int) < (l.length : Int) := by omega
      obtain ⟨s, hse⟩ : ∃ s, l[k] = s := ⟨_, rfl⟩
      rw [hse] at c0 c1 HNF HBV0 HONE HPRE HPL hct hnl k0
      clear hse
      have hFb : F.length + 1 + cnt s.body ≤ 600 := by omega
      have hlvb : lv + 1 + cnt s.body ≤ 1000 := by omega
      have hB1 := below_keep (al1 wr (.cells #[.int .i64 s.kind, .string (bb s.name), rv', av', bv', .int .i64 lv] 98)) hB
      have HK0 := Lib.hid k0
      have HK4 := Lib.hid k4
      clear k0 k4 hFl hct
      obtain ⟨lw, hlw⟩ : ∃ q : Int, (if s.kind = 5 then lv + 1 else lv) = q := ⟨_, rfl⟩
      rw [hlw] at HPL
      have hl0 : 0 ≤ lw := by rw [← hlw]; split <;> omega
      have hl1 : lw + cnt s.body ≤ 1000 := by rw [← hlw]; split <;> omega
      have hway : ((s.kind == 5) = true ∧ lw = lv + 1) ∨ ((s.kind == 5) = false ∧ lv = lw) := by
        by_cases h5 : s.kind = 5
        · rw [if_pos h5] at hlw; exact Or.inl ⟨by rw [beq_iff_eq]; exact h5, hlw.symm⟩
        · rw [if_neg h5] at hlw; exact Or.inr ⟨by rw [beq_eq_false_iff_ne]; exact h5, hlw⟩
      clear hlw
      rcases hway with ⟨b5, rfl⟩ | ⟨b5, rfl⟩
      all_goals
        go_wp2_with (first
          | (at_builtin; refine wpList_append_own _ rfl (.tmp 15) (.tmp 22) 95 rfl w.heap.size 98 i0 (.agg #[.int .i64 0, .string ⟨#[]⟩, .slice none 0 0, .slice none 0 0, .slice none 0 0, .int .i64 0]) 6 104 Tryz.underlying95 hi hz0 hz1 hz2 rfl (by decide) _ _ _ rfl (World.ownsRow.alloc HO.out _) ⟨wr.heap.size, 0, none⟩ 1 1 [.int .i64 s.kind, .string (bb s.name), rv', av', bv', .int .i64 lv] rfl rfl (cell6_new _ _ _ _ _ _ _ _) (fun u hu => HONE.out u hu) (by unfold maxLen; omega) (by omega) (by simp; omega) ?_; intro v3 w3 hown3 hgrow3 hnil3; have hB3 := (hB.alloc hsz (.cells #[.int .i64 s.kind, .string (bb s.name), rv', av', bv', .int .i64 lv] 98)).grown hgrow3 (by simp; omega) (fun q hq => (World.ownsRow.lt HO.out q hq).1); have hs3 := hB3.size; have hBw := hw.trans (hB3.mono hw.size); have d0 := cell_later' hBw HK0.out; have d4 := cell_later' hBw HK4.out; have HO3 := Lib.hid hown3; clear hown3 hgrow3 hnil3)
          | (go_at_call 47; refine (HPRE.out w0 w3 bv' _ hBw HBV0.out (by omega) hl0 hl1).mono ?_; rintro e w4 ⟨g4, oc4, G, rfl, hown4, hG, hGv, hb4⟩; have HO4 := Lib.hid (own_keep HO3.out hb4); have HG := Lib.hid hG; have HGV := Lib.hid hGv; have HOG := Lib.hid hown4; have hB4 := below_keep hb4 hB3; have hs4 := hB4.size; have hGl : G.length = cnt s.body := (by have := congrArg List.length hG; rw [List.length_map] at this; rw [this]; exact pre_len.2 _ _ _); have hGb : F.length + 1 + G.length ≤ 600 := (by omega); clear hown4 hG hGv hb4 hGl)
          | (at_builtin; refine wpList_append_own _ rfl (.tmp 33) (.tmp 40) 95 rfl w.heap.size 98 i0 (.agg #[.int .i64 0, .string ⟨#[]⟩, .slice none 0 0, .slice none 0 0, .slice none 0 0, .int .i64 0]) 6 104 Tryz.underlying95 hi hz0 hz1 hz2 rfl (by decide) _ _ _ rfl HO4.out ⟨g4, 0, none⟩ G.length oc4 (flatF G) rfl (flatF_length G) (World.ownsRow.cells HOG.out (g := g4) rfl) (flatF_one' HGV.out) (by unfold maxLen; omega) (by omega) hs4 ?_; intro v5 w5 hown5 hgrow5 hnil5; have hB5 := hB4.grown hgrow5 hs4 (fun q hq => (World.ownsRow.lt HO4.out q hq).1); have HO5 := Lib.hid hown5; clear hown5 hgrow5 hnil5))
        have hcat : flatF F ++ [.int .i64 s.kind, .string (bb s.name), rv', av', bv', .int .i64 lv] ++ flatF G = flatF (F ++ [(⟨s, lv, rv', av', bv'⟩ : FV)] ++ G) := by rw [flatF_app, flatF_app, flatF_one]; rfl
        have hlen : (F ++ [(⟨s, lv, rv', av', bv'⟩ : FV)] ++ G).length = F.length + 1 + G.length := by simp; omega
        have hO5 := HO5.out
        rw [hcat, ← hlen] at hO5
        obtain ⟨g5, oc5, rfl⟩ : ∃ g5 oc5, v5 = .slice (some ⟨g5, 0, none⟩) (F ++ [(⟨s, lv, rv', av', bv'⟩ : FV)] ++ G).length oc5 := by
          rcases hO5.2 with ⟨_, h0⟩ | ⟨g5, oc5, _, rfl, _⟩
          · rw [hlen] at h0; omega
          · exact ⟨g5, oc5, rfl⟩
        have HO6 := Lib.hid hO5
        clear HO5 hO5 hcat hlen
        go_roundw
        case rel => exact ⟨g5, oc5, F ++ [(⟨s, lv, rv', av', bv'⟩ : FV)] ++ G, k + 1, rfl, by go_num, by omega, HO6.out, by rw [List.map_append, List.map_append, HF.out, HG.out, HPL.out, List.append_assoc]; rfl, fun f hf => by
          rcases List.mem_append.1 hf with hf | hf
          · rcases List.mem_append.1 hf with hf | hf
            · exact HFV.out f hf
            · rw [List.mem_singleton.1 hf]; exact HNF.out
          · exact HGV.out f hf, hB5⟩
        case measure => simp [intOf]; omega
    · obtain rfl : k = l.length := by omega
      have HL : Hid (l.take l.length = l) := Lib.hid (List.take_length)
      go_wp2
      go_ret
      exact ⟨g, oc, F, rfl, HO.out, by rw [HF.out, HL.out], HFV.out, hB⟩
theorem pre_ok (l : List St) : PreOk l := lst_ind pre_step l
end Go.Proofs.YtcdoicgbjoikkaaGreatDoor.tre
namespace Go.Proofs.YtcdoicgbjoikkaaGreatDoor.tre
open Go.RowKit lex

/-- A statement by value. -/
abbrev stV (s : St) (rv av bv : Value) : Value := .agg #[.int .i64 s.kind, .string (bb s.name), rv, av, bv]
/-- A statement in a block of its own. -/
def at5 (w : World) (b : Nat) (k : Int) (x : ByteArray) (rv av bv : Value) : Prop := w.cell? ⟨b, 0, none⟩ = some (.int .i64 k) ∧ w.cell? ⟨b, 1, none⟩ = some (.string x) ∧ w.cell? ⟨b, 2, none⟩ = some rv ∧ w.cell? ⟨b, 3, none⟩ = some av ∧ w.cell? ⟨b, 4, none⟩ = some bv
theorem at5_new (w : World) (k : Int) (x : ByteArray) (rv av bv : Value) (t : TypeId) : at5 (w.alloc (.cells #[.int .i64 k, .string x, rv, av, bv] t)) w.heap.size k x rv av bv := by
  refine ⟨?_, ?_, ?_, ?_, ?_⟩ <;> go_simp
theorem at5_keep {w1 w2 : World} {b : Nat} {k : Int} {x : ByteArray} {rv av bv : Value} (h : at5 w1 b k x rv av bv) (h2 : Below w1.heap.size w1 w2) : at5 w2 b k x rv av bv :=
  ⟨cell_keep h2 h.1, cell_keep h2 h.2.1, cell_keep h2 h.2.2.1, cell_keep h2 h.2.2.2.1, cell_keep h2 h.2.2.2.2⟩
set_option maxRecDepth 100000 in
set_option maxHeartbeats 8000000 in
theorem rfld_of (s : St) (rv av bv : Value) (R : Int) (w : World) (h : Hid (fvOk w ⟨s, 0, rv, av, bv⟩)) (hR : Hid (fldE s = R)) :
    Calls Tryz.prog 114 #[stV s rv av bv] w fun e w' => e = .returned (.int .i64 R) ∧ Below w.heap.size w w' := by
  obtain ⟨k, n, r, a, b⟩ := s
  obtain ⟨hnl, hrv, hav, hbv⟩ := h.out
  simp only [St.refs, St.body, St.attrs, St.name] at hrv hav hbv hnl
  have hR2 := hR.out
  simp only [fldE, St.kind, St.name, St.refs, St.attrs, St.body] at hR2
  clear hR
  have hR := Lib.hid hR2
  clear hR2
  clear h
  have hav' := hav
  obtain ⟨ro, rc, rfl, _, _, _⟩ := hrv
  obtain ⟨so, sc, rfl, _, _, _⟩ := hav'
  obtain ⟨bo, bc, rfl, _, _, _⟩ := hbv
  show Calls Tryz.prog 114 #[.agg #[.int .i64 k, .string (bb n), .slice ro r.length rc, .slice so a.length sc, .slice bo b.length bc]] w _
  have hB := al1 w (.cells #[.int .i64 k, .string (bb n), .slice ro r.length rc, .slice so a.length sc, .slice bo b.length bc] 56)
  have HAV := Lib.hid (hav.keep hB)
  obtain ⟨X, hX⟩ : ∃ X, bb n = X := ⟨_, rfl⟩
  have hXn : X.toList = n := by rw [← hX, ByteArray.toList_eq]
  have e0 : X.toList.isEmpty = decide (n = []) := by rw [hXn]; cases n <;> rfl
  have e1 : (X.toList == [110, 111, 100, 101]) = decide (n = wNode) := by rw [hXn, Bool.eq_iff_iff, beq_iff_eq, decide_eq_true_eq]; rfl
  have e2 : (X.toList == [101, 100, 103, 101]) = decide (n = wEdge) := by rw [hXn, Bool.eq_iff_iff, beq_iff_eq, decide_eq_true_eq]; rfl
  have e3 : (X.toList != [110, 111, 100, 101]) = !decide (n = wNode) := by rw [bne, e1]
  have e4 : (X.toList != [101, 100, 103, 101]) = !decide (n = wEdge) := by rw [bne, e2]
  rw [hX] at HAV hB ⊢
  clear hav hX hXn hnl
  have q1 : decide ((0 : Int) < (r.length : Int)) = decide (0 < r.length) := by rw [Bool.eq_iff_iff]; simp
  have q2 : decide ((0 : Int) < (a.length : Int)) = decide (0 < a.length) := by rw [Bool.eq_iff_iff]; simp
  have q3 : decide ((0 : Int) < (b.length : Int)) = decide (0 < b.length) := by rw [Bool.eq_iff_iff]; simp
  have q4 : decide ((r.length : Int) < 2) = decide (r.length < 2) := by rw [Bool.eq_iff_iff, decide_eq_true_eq, decide_eq_true_eq]; omega
  have q5 : ((a.length : Int) != 1) = !decide (a.length = 1) := by rw [bne, Bool.eq_iff_iff]; simp; omega
  -- ways (genfld.py)
  by_cases kl : k < 1
  · obtain rfl : (1 : Int) = R := by rw [← hR.out]; simp [kl]
    clear hR
    go_enter Tryz.func114, Tryz.ntmps114
    go_wp2
    go_ret
    exact ⟨rfl, hB⟩
  by_cases kh : 5 < k
  · obtain rfl : (1 : Int) = R := by rw [← hR.out]; simp [kh]
    clear hR
    go_enter Tryz.func114, Tryz.ntmps114
    go_wp2
    go_ret
    exact ⟨rfl, hB⟩
  have hk : k = 1 ∨ k = 2 ∨ k = 3 ∨ k = 4 ∨ k = 5 := by omega
  clear kl kh
  rcases hk with rfl | rfl | rfl | rfl | rfl
  · by_cases t1 : 0 < r.length
    · rw [decide_eq_true t1] at q1
      have pt1 : decide (0 < r.length) = true := decide_eq_true t1
      obtain rfl : (1 : Int) = R := by rw [← hR.out]; simp [t1]
      clear hR t1
      go_enter Tryz.func114, Tryz.ntmps114
      go_wp2
      go_ret
      exact ⟨rfl, hB⟩
    · rw [decide_eq_false t1] at q1
      have pt1 : decide (0 < r.length) = false := decide_eq_false t1
      by_cases t2 : 0 < b.length
      · rw [decide_eq_true t2] at q3
        have pt2 : decide (0 < b.length) = true := decide_eq_true t2
        obtain rfl : (1 : Int) = R := by rw [← hR.out]; simp [t1, t2]
        clear hR t1 t2
        go_enter Tryz.func114, Tryz.ntmps114
        go_wp2
        go_ret
        exact ⟨rfl, hB⟩
      · rw [decide_eq_false t2] at q3
        have pt2 : decide (0 < b.length) = false := decide_eq_false t2
        obtain rfl : (0 : Int) = R := by rw [← hR.out]; simp [t1, t2]
        clear hR t1 t2
        go_enter Tryz.func114, Tryz.ntmps114
        go_wp2
        go_ret
        exact ⟨rfl, hB⟩
  · by_cases t1 : n = []
    · rw [decide_eq_true t1] at e0
      by_cases t2 : 0 < b.length
      · rw [decide_eq_true t2] at q3
        have pt2 : decide (0 < b.length) = true := decide_eq_true t2
        obtain rfl : (1 : Int) = R := by rw [← hR.out]; simp [t1, t2]
        clear hR t1 t2
        go_enter Tryz.func114, Tryz.ntmps114
        go_wp2
        go_ret
        exact ⟨rfl, hB⟩
      · rw [decide_eq_false t2] at q3
        have pt2 : decide (0 < b.length) = false := decide_eq_false t2
        by_cases t3 : r.length < 2
        · rw [decide_eq_true t3] at q4
          have pt3 : decide (r.length < 2) = true := decide_eq_true t3
          obtain rfl : (1 : Int) = R := by rw [← hR.out]; simp [t1, t2, t3]
          clear hR t1 t2 t3
          go_enter Tryz.func114, Tryz.ntmps114
          go_wp2
          go_ret
          exact ⟨rfl, hB⟩
        · rw [decide_eq_false t3] at q4
          have pt3 : decide (r.length < 2) = false := decide_eq_false t3
          obtain rfl : (0 : Int) = R := by rw [← hR.out]; simp [t1, t2, t3]
          clear hR t1 t2 t3
          go_enter Tryz.func114, Tryz.ntmps114
          go_wp2
          go_ret
          exact ⟨rfl, hB⟩
    · rw [decide_eq_false t1] at e0
      obtain rfl : (1 : Int) = R := by rw [← hR.out]; simp [t1]
      clear hR t1
      go_enter Tryz.func114, Tryz.ntmps114
      go_wp2
      go_ret
      exact ⟨rfl, hB⟩
  · by_cases t1 : 0 < r.length
    · rw [decide_eq_true t1] at q1
      have pt1 : decide (0 < r.length) = true := decide_eq_true t1
      obtain rfl : (1 : Int) = R := by rw [← hR.out]; simp [t1]
      clear hR t1
      go_enter Tryz.func114, Tryz.ntmps114
      go_wp2
      go_ret
      exact ⟨rfl, hB⟩
    · rw [decide_eq_false t1] at q1
      have pt1 : decide (0 < r.length) = false := decide_eq_false t1
      by_cases t2 : 0 < b.length
      · rw [decide_eq_true t2] at q3
        have pt2 : decide (0 < b.length) = true := decide_eq_true t2
        obtain rfl : (1 : Int) = R := by rw [← hR.out]; simp [t1, t2]
        clear hR t1 t2
        go_enter Tryz.func114, Tryz.ntmps114
        go_wp2
        go_ret
        exact ⟨rfl, hB⟩
      · rw [decide_eq_false t2] at q3
        have pt2 : decide (0 < b.length) = false := decide_eq_false t2
        by_cases t3 : n = wNode
        · rw [decide_eq_true t3] at e1; rw [decide_eq_true t3] at e3
          obtain rfl : (0 : Int) = R := by rw [← hR.out]; simp [t1, t2, t3]
          clear hR t1 t2 t3
          go_enter Tryz.func114, Tryz.ntmps114
          go_wp2
          go_ret
          exact ⟨rfl, hB⟩
        · rw [decide_eq_false t3] at e1; rw [decide_eq_false t3] at e3
          by_cases t4 : n = wEdge
          · rw [decide_eq_true t4] at e2; rw [decide_eq_true t4] at e4
            obtain rfl : (0 : Int) = R := by rw [← hR.out]; simp [t1, t2, t4]
            clear hR t1 t2 t3 t4
            go_enter Tryz.func114, Tryz.ntmps114
            go_wp2
            go_ret
            exact ⟨rfl, hB⟩
          · rw [decide_eq_false t4] at e2; rw [decide_eq_false t4] at e4
            obtain rfl : (1 : Int) = R := by rw [← hR.out]; simp [t1, t2, t3, t4]
            clear hR t1 t2 t3 t4
            go_enter Tryz.func114, Tryz.ntmps114
            go_wp2
            go_ret
            exact ⟨rfl, hB⟩
  · by_cases t1 : 0 < r.length
    · rw [decide_eq_true t1] at q1
      have pt1 : decide (0 < r.length) = true := decide_eq_true t1
      obtain rfl : (1 : Int) = R := by rw [← hR.out]; simp [t1]
      clear hR t1
      go_enter Tryz.func114, Tryz.ntmps114
      go_wp2
      go_ret
      exact ⟨rfl, hB⟩
    · rw [decide_eq_false t1] at q1
      have pt1 : decide (0 < r.length) = false := decide_eq_false t1
      by_cases t2 : 0 < b.length
      · rw [decide_eq_true t2] at q3
        have pt2 : decide (0 < b.length) = true := decide_eq_true t2
        obtain rfl : (1 : Int) = R := by rw [← hR.out]; simp [t1, t2]
        clear hR t1 t2
        go_enter Tryz.func114, Tryz.ntmps114
        go_wp2
        go_ret
        exact ⟨rfl, hB⟩
      · rw [decide_eq_false t2] at q3
        have pt2 : decide (0 < b.length) = false := decide_eq_false t2
        by_cases t3 : a.length = 1
        · rw [decide_eq_true t3] at q5
          have pt3 : decide (a.length = 1) = true := decide_eq_true t3
          obtain ⟨y, hy⟩ : ∃ y, a = [y] := List.length_eq_one_iff.1 t3
          obtain ⟨_, _, ec, _, _, hA⟩ := HAV.out
          obtain ⟨A, rfl, hAt⟩ := hA (by rw [hy]; simp)
          have ec2 : so = some A := by simp only [Value.slice.injEq] at ec; exact ec.1
          subst ec2
          have c0 := (hAt 0 (by rw [hy]; simp)).1
          have e5 : A.add (0 * 2) = A := by unfold Addr.add; rfl
          rw [e5] at c0
          have e6 : a[0]'(by rw [hy]; simp) = y := by subst hy; rfl
          rw [e6] at c0
          obtain ⟨Y, hY⟩ : ∃ Y, bb y.1 = Y := ⟨_, rfl⟩
          have hYn : Y.toList = y.1 := by rw [← hY, ByteArray.toList_eq]
          have e7 : Y.toList.isEmpty = decide (y.1 = []) := by rw [hYn]; cases y.1 <;> rfl
          rw [hY] at c0
          have hal : a.length = 1 := t3
          have l1 : (a.length : Int) = 1 := by omega
          clear HAV hAt hA ec e5 e6 hY hYn
          by_cases t4 : y.1 = []
          · rw [decide_eq_true t4] at e7
            obtain rfl : (0 : Int) = R := by rw [← hR.out]; simp [t1, t2, hy, t4]
            clear hR hal hy t1 t2 t3 t4
            go_enter Tryz.func114, Tryz.ntmps114
            go_wp2
            go_ret
            exact ⟨rfl, hB⟩
          · rw [decide_eq_false t4] at e7
            obtain rfl : (1 : Int) = R := by rw [← hR.out]; simp [t1, t2, hy, t4]
            clear hR hal hy t1 t2 t3 t4
            go_enter Tryz.func114, Tryz.ntmps114
            go_wp2
            go_ret
            exact ⟨rfl, hB⟩
        · rw [decide_eq_false t3] at q5
          have pt3 : decide (a.length = 1) = false := decide_eq_false t3
          obtain rfl : (1 : Int) = R := by rw [← hR.out]; simp [t1, t2, t3]
          clear hR t1 t2 t3
          go_enter Tryz.func114, Tryz.ntmps114
          go_wp2
          go_ret
          exact ⟨rfl, hB⟩
  · by_cases t1 : 0 < r.length
    · rw [decide_eq_true t1] at q1
      have pt1 : decide (0 < r.length) = true := decide_eq_true t1
      obtain rfl : (1 : Int) = R := by rw [← hR.out]; simp [t1]
      clear hR t1
      go_enter Tryz.func114, Tryz.ntmps114
      go_wp2
      go_ret
      exact ⟨rfl, hB⟩
    · rw [decide_eq_false t1] at q1
      have pt1 : decide (0 < r.length) = false := decide_eq_false t1
      by_cases t2 : 0 < a.length
      · rw [decide_eq_true t2] at q2
        have pt2 : decide (0 < a.length) = true := decide_eq_true t2
        obtain rfl : (1 : Int) = R := by rw [← hR.out]; simp [t1, t2]
        clear hR t1 t2
        go_enter Tryz.func114, Tryz.ntmps114
        go_wp2
        go_ret
        exact ⟨rfl, hB⟩
      · rw [decide_eq_false t2] at q2
        have pt2 : decide (0 < a.length) = false := decide_eq_false t2
        obtain rfl : (0 : Int) = R := by rw [← hR.out]; simp [t1, t2]
        clear hR t1 t2
        go_enter Tryz.func114, Tryz.ntmps114
        go_wp2
        go_ret
        exact ⟨rfl, hB⟩
end Go.Proofs.YtcdoicgbjoikkaaGreatDoor.tre
