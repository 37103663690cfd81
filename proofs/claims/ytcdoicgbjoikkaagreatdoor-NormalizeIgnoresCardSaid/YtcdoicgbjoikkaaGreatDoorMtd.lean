/-
  What Valid and Count of the reference of layer 7 return. Condition: a tree of at most 600 statements in memory.
  Slices of names in memory, as they are read and as a row that a loop appends to; has and the law's same. No condition.
  What Clusters of the reference of layer 7 returns. Condition: a tree of at most 600 statements in memory.
  What Names of the reference of layer 7 returns. Condition: a tree of at most 600 statements in memory, at most 40 refs in each.
-/
import Derived.Test.YtcdoicgbjoikkaaGreatDoorMtc
import Derived.Test.YtcdoicgbjoikkaaGreatDoorMta
import Derived.Laws.OwnMore
namespace Go.Proofs.YtcdoicgbjoikkaaGreatDoor.tre
open Go.RowKit lex

/-- The six cells of a place of a row of statements with levels. -/
theorem flat_at {w : World} {B g cap : Nat} {F : List FV} (h : w.ownsRow B 98 6 (.slice (some ⟨g, 0, none⟩) F.length cap) F.length (flatF F)) {i : Nat} (hi : i < F.length) :
    w.cell? ((⟨g, 0, none⟩ : Addr).add (i * 6)) = some (.int .i64 F[i].s.kind) ∧ w.cell? ⟨((⟨g, 0, none⟩ : Addr).add (i * 6)).block, ((⟨g, 0, none⟩ : Addr).add (i * 6)).off + 1, none⟩ = some (.string (bb F[i].s.name)) ∧
    w.cell? ⟨((⟨g, 0, none⟩ : Addr).add (i * 6)).block, ((⟨g, 0, none⟩ : Addr).add (i * 6)).off + 2, none⟩ = some F[i].rv ∧ w.cell? ⟨((⟨g, 0, none⟩ : Addr).add (i * 6)).block, ((⟨g, 0, none⟩ : Addr).add (i * 6)).off + 3, none⟩ = some F[i].av ∧
    w.cell? ⟨((⟨g, 0, none⟩ : Addr).add (i * 6)).block, ((⟨g, 0, none⟩ : Addr).add (i * 6)).off + 4, none⟩ = some F[i].bv ∧ w.cell? ⟨((⟨g, 0, none⟩ : Addr).add (i * 6)).block, ((⟨g, 0, none⟩ : Addr).add (i * 6)).off + 5, none⟩ = some (.int .i64 F[i].lv) := by
  have c := World.ownsRow.cells h (g := g) rfl
  have eb : ((⟨g, 0, none⟩ : Addr).add (i * 6)).block = g := by unfold Addr.add; split <;> rfl
  have eo : ((⟨g, 0, none⟩ : Addr).add (i * 6)).off = i * 6 := by
    unfold Addr.add; split
    · simp; omega
    · simp
  have key : ∀ j u, (cellsF F[i])[j]? = some u → 0 < j → w.cell? ⟨g, i * 6 + j, none⟩ = some u := by
    intro j u hj h0
    have := c _ _ (flatF_get F i hi j u hj)
    rw [add_one_of _ _ (by omega)] at this
    simpa using this
  rw [eb, eo]
  refine ⟨?_, key 1 _ rfl (by decide), key 2 _ rfl (by decide), key 3 _ rfl (by decide), key 4 _ rfl (by decide), key 5 _ rfl (by decide)⟩
  have := c _ _ (flatF_get F i hi 0 _ rfl)
  simpa using this
/-- The same cells, their places written out. -/
theorem flat_at2 {w : World} {B g cap : Nat} {F : List FV} (h : w.ownsRow B 98 6 (.slice (some ⟨g, 0, none⟩) F.length cap) F.length (flatF F)) {i : Nat} (hi : i < F.length) :
    w.cell? ⟨g, i * 6, none⟩ = some (.int .i64 F[i].s.kind) ∧ w.cell? ⟨g, i * 6 + 1, none⟩ = some (.string (bb F[i].s.name)) ∧ w.cell? ⟨g, i * 6 + 2, none⟩ = some F[i].rv ∧
    w.cell? ⟨g, i * 6 + 3, none⟩ = some F[i].av ∧ w.cell? ⟨g, i * 6 + 4, none⟩ = some F[i].bv ∧ w.cell? ⟨g, i * 6 + 5, none⟩ = some (.int .i64 F[i].lv) := by
  have c := World.ownsRow.cells h (g := g) rfl
  have key : ∀ j u, (cellsF F[i])[j]? = some u → 0 < j → w.cell? ⟨g, i * 6 + j, none⟩ = some u := by
    intro j u hj h0
    have := c _ _ (flatF_get F i hi j u hj)
    rw [add_one_of _ _ (by omega)] at this
    simpa using this
  obtain ⟨h0, -⟩ := flat_at h hi
  refine ⟨?_, key 1 _ rfl (by decide), key 2 _ rfl (by decide), key 3 _ rfl (by decide), key 4 _ rfl (by decide), key 5 _ rfl (by decide)⟩
  rw [← h0]; unfold Addr.add; split
  · rename_i hz; have : i = 0 := by (try simp at hz); omega
    subst this; rfl
  · simp
theorem fin_len {F : List FV} {l : List St} {lv : Int} (h : F.map (fun f => (f.s, f.lv)) = preL l lv) : F.length = cnt l := by
  have := congrArg List.length h
  rw [List.length_map] at this
  rw [this]; exact pre_len.2 _ _ _
theorem firstE_drop {L : List (St × Int)} {k : Nat} (h : k < L.length) : firstE (L.drop k) = if staE L[k].1 L[k].2 ≠ 0 then staE L[k].1 L[k].2 else firstE (L.drop (k + 1)) := by
  rw [List.drop_eq_getElem_cons h, firstE]
theorem fin_get {F : List FV} {L : List (St × Int)} (h : F.map (fun f => (f.s, f.lv)) = L) {k : Nat} (hk : k < F.length) : ∃ hk2 : k < L.length, L[k] = (F[k].s, F[k].lv) := by
  subst h
  exact ⟨by rw [List.length_map]; exact hk, by rw [List.getElem_map]⟩
/-- A tree in a block of its own. -/
def at3 (w : World) (b : Nat) (x : ByteArray) (d : Bool) (bv : Value) : Prop := w.cell? ⟨b, 0, none⟩ = some (.string x) ∧ w.cell? ⟨b, 1, none⟩ = some (.bool d) ∧ w.cell? ⟨b, 2, none⟩ = some bv
theorem at3_new (w : World) (x : ByteArray) (d : Bool) (bv : Value) (t : TypeId) : at3 (w.alloc (.cells #[.string x, .bool d, bv] t)) w.heap.size x d bv := by
  refine ⟨?_, ?_, ?_⟩ <;> go_simp
theorem at3_keep {w1 w2 : World} {b : Nat} {x : ByteArray} {d : Bool} {bv : Value} (h : at3 w1 b x d bv) (h2 : Below w1.heap.size w1 w2) : at3 w2 b x d bv := ⟨cell_keep h2 h.1, cell_keep h2 h.2.1, cell_keep h2 h.2.2⟩
set_option maxRecDepth 100000 in
set_option maxHeartbeats 8000000 in
theorem rvalid_of (v : Value) (T : Tr) (R : Int) (w : World) (hT : Hid (TrV w v T)) (hc : cnt T.body ≤ 600) (hR : Hid (validT T = R)) :
    Calls Tryz.prog 28 #[v] w fun e w' => e = .returned (.int .i64 R) ∧ Below w.heap.size w w' := by
  obtain ⟨bv, rfl, hnl, hs⟩ := hT.out
  have hr := hR.out
  unfold validT at hr
  obtain ⟨X, hX⟩ : ∃ X, bb T.name = X := ⟨_, rfl⟩
  have hXd : X.data.toList = T.name := by rw [← hX]
  have HZ := Lib.hid (show X.size ≤ maxLen by rw [← b_size, hXd]; exact hnl)
  obtain ⟨nm, hnm⟩ : ∃ q, isNm T.name = q := ⟨_, rfl⟩
  have HNM : Hid (isNm X.data.toList = nm) := Lib.hid (by rw [hXd]; exact hnm)
  rw [hX]
  rw [hnm] at hr
  have hB := al1 w (.cells #[.string X, .bool T.dir, bv] 24)
  have h3 := at3_new w X T.dir bv 24
  have HS1 := Lib.hid (hs.keep hB)
  have hsz1 : w.heap.size < (w.alloc (.cells #[.string X, .bool T.dir, bv] 24)).heap.size := by simp
  clear hT hR hX hXd hnm hs hnl
  cases nm
  · rw [if_pos rfl] at hr
    subst hr
    obtain ⟨c0, c1, c2⟩ := h3
    go_enter Tryz.func28, Tryz.ntmps28
    go_wp2_with (go_at_call 63; refine (rnm_of _ _ _ HZ.out HNM).mono ?_; rintro e w' ⟨rfl, rfl⟩)
    go_ret
    exact ⟨rfl, hB⟩
  rw [if_neg (by decide)] at hr
  have HR := Lib.hid hr
  clear hr
  obtain ⟨c0, c1, c2⟩ := id h3
  go_enter Tryz.func28, Tryz.ntmps28
  go_wp2_with fail
  refine (rnm_of _ _ _ HZ.out HNM).mono ?_
  rintro e w' ⟨rfl, rfl⟩
  go_wp2_with fail
  refine (pre_ok T.body _ _ bv 0 (Below.refl _ _) HS1.out hc (by decide) (by omega)).mono ?_
  rintro e w2 ⟨g, oc, F, rfl, hown, hF, hfv, hb2⟩
  have hFl := fin_len hF
  have hB2 := below_keep hb2 hB
  have HO := Lib.hid hown
  have HF := Lib.hid hF
  have HFV : Hid (∀ f ∈ F, fvOk w2 f) := Lib.hid (fun f hf => (hfv f hf).keep hb2)
  clear c0 c1 c2 h3 hown hF hfv hb2 hsz1
  by_cases g5 : 512 < F.length
  · have HN : Hid (R = 2) := Lib.hid (by have := HR.out; rw [if_pos (by omega)] at this; exact this.symm)
    obtain rfl := HN.out
    have l5 : (512 : Int) < (F.length : Int) := by omega
    clear g5 hFl
    go_wp2
    go_ret
    exact ⟨rfl, hB2⟩
  have HR2 : Hid (firstE (preL T.body 0) = R) := Lib.hid (by have := HR.out; rw [if_neg (by omega)] at this; exact this)
  have l5 : ¬ (512 : Int) < (F.length : Int) := by omega
  have hF512 : F.length ≤ 512 := by omega
  clear g5 hFl HR
  go_wp2_with fail
  go_loopw [4] (fun iv wr => ∃ k : Nat, k ≤ F.length ∧ iv = .int .i64 k ∧ firstE ((preL T.body 0).drop k) = R ∧ Below w2.heap.size w2 wr) (fun iv _ => F.length - (intOf iv).toNat)
  case atStart => exact ⟨0, Nat.zero_le _, rfl, HR2.out, Below.refl _ _⟩
  case round =>
    obtain ⟨k, hk, rfl, hfe, hBr⟩ := hrel
    rename World => wr
    have HFE := Lib.hid hfe
    clear hfe HR2
    by_cases hlt : k < F.length
    · obtain ⟨p0, p1, p2, p3, p4, p5⟩ := flat_at (own_keep HO.out hBr) hlt
      obtain ⟨r0, r1, r2, r3, r4, r5⟩ := flat_at2 (own_keep HO.out hBr) hlt
      obtain ⟨hk2, hgk⟩ := fin_get HF.out hlt
      have hst := HFE.out
      rw [firstE_drop hk2, hgk] at hst
      have hfk := (HFV.out _ (List.getElem_mem hlt)).keep hBr
      obtain ⟨f, hfe⟩ : ∃ f, F[k] = f := ⟨_, rfl⟩
      rw [hfe] at p0 p1 p2 p3 p4 p5 r0 r1 r2 r3 r4 r5 hst hfk
      obtain ⟨s, lv, rv, av, bv'⟩ := f
      have HFK := Lib.hid hfk
      obtain ⟨E, hE⟩ : ∃ E, staE s lv = E := ⟨_, rfl⟩
      simp only at p0 p1 p2 p3 p4 p5 r0 r1 r2 r3 r4 r5 hst
      rw [hE] at hst
      have HE := Lib.hid hE
      have i0 : (0 : Int) ≤ (k : Int) := by omega
      have i1 : (k : Int) < (F.length : Int) := by omega
      clear hE hfk hfe hgk HFE
      by_cases he : E = 0
      · rw [if_neg (by simp [he])] at hst
        have HN := Lib.hid hst
        subst he
        clear hst
        go_wp2_with (go_at_call 64; refine (rsta_of s lv rv av bv' 0 _ HFK HE).mono ?_; rintro e w3 ⟨rfl, hb3⟩)
        go_roundw
        case rel => exact ⟨k + 1, by omega, by go_num, HN.out, below_keep hb3 hBr⟩
        case measure => simp [intOf]; omega
      · rw [if_pos he] at hst
        subst hst
        have b1 : (E != 0) = true := by simp [he]
        clear he
        go_wp2_with (go_at_call 64; refine (rsta_of s lv rv av bv' E _ HFK HE).mono ?_; rintro e w3 ⟨rfl, hb3⟩)
        go_ret
        exact ⟨rfl, below_keep hb3 (below_keep hBr hB2)⟩
    · obtain rfl : k = F.length := by omega
      have HN : Hid (R = 0) := Lib.hid (by
        have := HFE.out
        rw [← HF.out, List.drop_of_length_le (by rw [List.length_map]; exact Nat.le_refl _)] at this
        exact this.symm)
      obtain rfl := HN.out
      go_wp2
      go_ret
      exact ⟨rfl, below_keep hBr hB2⟩
end Go.Proofs.YtcdoicgbjoikkaaGreatDoor.tre
namespace Go.Proofs.YtcdoicgbjoikkaaGreatDoor.tre
open Go.RowKit lex

/-- A list of names as a slice holds it. -/
def Nl (w : World) (v : Value) (l : List (List UInt8)) : Prop := ∃ (ao : Option Addr) (cap : Nat), v = .slice ao l.length cap ∧ l.length ≤ cap ∧ cap ≤ maxLen ∧ (0 < l.length → ∃ A, ao = some A ∧ ∀ i (h : i < l.length), w.cell? (A.add i) = some (.string (bb l[i])))
theorem Nl.keep {w1 w2 : World} {v : Value} {l : List (List UInt8)} (h : Nl w1 v l) (hb : Below w1.heap.size w1 w2) : Nl w2 v l := by
  obtain ⟨ao, cap, rfl, hc, hm, hA⟩ := h
  exact ⟨ao, cap, rfl, hc, hm, fun hn => by obtain ⟨A, rfl, h2⟩ := hA hn; exact ⟨A, rfl, fun i hi => cell_later' hb (h2 i hi)⟩⟩
theorem Nl.get {w : World} {ao : Option Addr} {n cap : Nat} {l : List (List UInt8)} (h : Nl w (.slice ao n cap) l) {i : Nat} (hi : i < l.length) : ∃ A, ao = some A ∧ w.cell? (A.add i) = some (.string (bb l[i])) := by
  obtain ⟨ao', cap', e, _, _, hA⟩ := h
  cases e
  obtain ⟨A, rfl, h2⟩ := hA (by omega)
  exact ⟨A, rfl, h2 i hi⟩
def nmC (l : List (List UInt8)) : List Value := l.map fun x => .string (bb x)
/-- A slice of names that the call owns. -/
def Nrow (w : World) (B : Nat) (v : Value) (l : List (List UInt8)) : Prop := w.ownsRow B 9 1 v l.length (nmC l)
theorem Nrow.nl {w : World} {B : Nat} {v : Value} {l : List (List UInt8)} (h : Nrow w B v l) : Nl w v l := by
  have h0 := h
  rcases h.2 with ⟨rfl, hz⟩ | ⟨g, cap, cur, rfl, hg, hc, hcap, hm, h3⟩
  · obtain rfl : l = [] := List.eq_nil_of_length_eq_zero hz
    exact ⟨none, 0, rfl, Nat.le_refl _, by decide, fun h => absurd h (by simp)⟩
  · refine ⟨some ⟨g, 0, none⟩, cap, rfl, hcap, hm, fun _ => ⟨_, rfl, fun i hi => ?_⟩⟩
    have c := World.ownsRow.cells h0 (g := g) rfl
    exact c i _ (by unfold nmC; rw [List.getElem?_map, List.getElem?_eq_getElem hi]; rfl)
set_option maxRecDepth 100000 in
set_option maxHeartbeats 8000000 in
theorem rhas_of (v : Value) (x : List UInt8) (l : List (List UInt8)) (r : Bool) (w : World) (h : Hid (Nl w v l)) (hr : Hid (l.contains x = r)) :
    Calls Tryz.prog 48 #[v, .string (bb x)] w fun e w' => e = .returned (.bool r) ∧ w = w' := by
  obtain ⟨ao, cap, rfl, hc, hm, _⟩ := id h.out
  unfold maxLen at hm
  have hlm : l.length ≤ 9223372036854775807 := by omega
  have HR : Hid ((l.drop 0).contains x = r) := Lib.hid (by rw [List.drop_zero]; exact hr.out)
  clear hc hm hr
  go_enter Tryz.func48, Tryz.ntmps48
  go_wp2_with fail
  go_loop [5] (fun iv => ∃ k : Nat, iv = .int .i64 k ∧ k ≤ l.length ∧ (l.drop k).contains x = r) (fun iv => l.length - (intOf iv).toNat)
  case atStart => exact ⟨0, rfl, Nat.zero_le _, HR.out⟩
  case round =>
    obtain ⟨k, rfl, hk, hfe⟩ := hrel
    have HFE := Lib.hid hfe
    clear hfe HR
    by_cases hlt : k < l.length
    · obtain ⟨A, rfl, hcell⟩ := h.out.get hlt
      have hst := HFE.out
      rw [List.drop_eq_getElem_cons hlt, List.contains_cons] at hst
      obtain ⟨y, hy⟩ : ∃ y, l[k] = y := ⟨_, rfl⟩
      rw [hy] at hst hcell
      have i0 : (0 : Int) ≤ (k : Int) := by omega
      have i1 : (k : Int) < (l.length : Int) := by omega
      clear hy HFE
      obtain ⟨X, hX⟩ : ∃ X, bb x = X := ⟨_, rfl⟩
      obtain ⟨Y, hY⟩ : ∃ Y, bb y = Y := ⟨_, rfl⟩
      have hX2 : X.toList = x := by rw [← hX, ByteArray.toList_eq]
      have hY2 : Y.toList = y := by rw [← hY, ByteArray.toList_eq]
      rw [hX]
      rw [hY] at hcell
      by_cases hxy : x = y
      · have b1 : (Y.toList == X.toList) = true := by rw [hX2, hY2, beq_iff_eq]; exact hxy.symm
        have HN : Hid (r = true) := Lib.hid (by rw [← hst]; simp [hxy])
        obtain rfl := HN.out
        clear hst hX hY hX2 hY2 hxy
        go_wp2
        go_ret
        exact ⟨rfl, rfl⟩
      · have b1 : (Y.toList == X.toList) = false := by rw [hX2, hY2, beq_eq_false_iff_ne]; exact fun e => hxy e.symm
        have HN : Hid ((l.drop (k + 1)).contains x = r) := Lib.hid (by rw [← hst]; simp [hxy])
        clear hst hX hY hX2 hY2 hxy
        go_wp2
        go_round
        case rel => exact ⟨k + 1, by go_num, by omega, HN.out⟩
        case measure => simp [intOf]; omega
    · obtain rfl : k = l.length := by omega
      have HN : Hid (r = false) := Lib.hid (by rw [← HFE.out, List.drop_length]; rfl)
      obtain rfl := HN.out
      go_wp2
      go_ret
      exact ⟨rfl, rfl⟩
end Go.Proofs.YtcdoicgbjoikkaaGreatDoor.tre
namespace Go.Proofs.YtcdoicgbjoikkaaGreatDoor.tre
open Go.RowKit lex

/-- A list of names that a call leaves. -/
def NlOut (L : List (List UInt8)) (w : World) (e : Ending) (w' : World) : Prop := ∃ v, e = .returned v ∧ Nl w' v L ∧ Below w.heap.size w w'
theorem info_s1 : (Tryz.prog.info? 9).map (fun i => (i.zero, i.size, i.bytes)) = some (some (.string ⟨#[]⟩), 1, 16) := by kernel_rfl
theorem info_str1 : ∃ i, Tryz.prog.info? 9 = some i ∧ i.zero = some (.string ⟨#[]⟩) ∧ i.size = 1 ∧ i.bytes = 16 := by
  have h := info_s1
  cases hq : Tryz.prog.info? 9 with
  | none => rw [hq] at h; cases h
  | some i =>
    rw [hq] at h
    simp only [Option.map_some, Option.some.injEq, Prod.mk.injEq] at h
    exact ⟨i, rfl, h.1, h.2.1, h.2.2⟩
theorem nmC_snoc (l : List (List UInt8)) (x : List UInt8) : nmC (l ++ [x]) = nmC l ++ [.string (bb x)] := by simp [nmC]
theorem cell1_str (w : World) (v : Value) (t : TypeId) : ∀ j u, [v][j]? = some u → (w.alloc (.cells #[v] t)).cell? ((⟨w.heap.size, 0, none⟩ : Addr).add j) = some u := by
  intro j u hj
  match j, hj with
  | 0, hj => simp at hj; subst hj; simp [Addr.add]
  | (j + 1), hj => simp at hj
/-- One name more, out of a slice of one that was just made. -/
theorem app_name {w : World} {ops : Array Oper} {rest : List Oper} {o : Oper} {a : Act} {Q : Exit → Act → World → Prop} (hg : o.guard = none) (p y : Operand) (ho : o.op = .call { callee := .builtin .append, args := #[p, y], argTypes := #[42, 42] })
    (B : Nat) (v : Value) (l : List (List UInt8)) (x : List UInt8) (hs : a.eval p = v) (hx : a.eval y = .slice (some ⟨w.heap.size, 0, none⟩) 1 1) (h : Hid (Nrow w B v l)) (hl : l.length ≤ 1000000) (hB : B ≤ w.heap.size)
    (hK : ∀ v' w', Nrow w' B v' (l ++ [x]) → w.grownBy w' v.ownBlock → wpList Tryz.prog ops Q rest (a.put o.dst v') w') : wpList Tryz.prog ops Q (o :: rest) a (w.alloc (.cells #[.string (bb x)] 9)) := by
  obtain ⟨i0, hi, hz0, hz1, hz2⟩ := info_str1
  refine wpList_append_own _ hg p y 42 ho B 9 i0 (.string ⟨#[]⟩) 1 16 Tryz.underlying42 hi hz0 hz1 hz2 rfl (by decide) v l.length _ hs (World.ownsRow.alloc h.out _) ⟨w.heap.size, 0, none⟩ 1 1 [.string (bb x)] hx rfl (cell1_str _ _ _) (by simp [Value.oneCell']) (by unfold maxLen; omega) (by omega) (by simp; omega) ?_
  intro v' w' hown hgrow _
  refine hK v' w' ?_ ?_
  · unfold Nrow; rw [nmC_snoc, List.length_append]; exact hown
  · refine ⟨hgrow.os, hgrow.tape, hgrow.output, Nat.le_trans (by simp) hgrow.size, fun k hk hne => ?_⟩
    rw [hgrow.block k (by simp; omega) hne, heap_alloc_old w _ hk]
/-- Rows of two kinds lie in two blocks. -/
theorem own_far {w : World} {B1 B2 s1 s2 n1 n2 : Nat} {e1 e2 : TypeId} {v1 v2 : Value} {xs1 xs2 : List Value} (h1 : w.ownsRow B1 e1 s1 v1 n1 xs1) (h2 : w.ownsRow B2 e2 s2 v2 n2 xs2) (he : e1 ≠ e2) : v1.ownBlock = none ∨ v1.ownBlock ≠ v2.ownBlock := by
  rcases h1.2 with ⟨rfl, _⟩ | ⟨g, _, cur, rfl, _, hg, _⟩
  · exact Or.inl rfl
  · refine Or.inr fun e => ?_
    rcases h2.2 with ⟨rfl, _⟩ | ⟨g2, _, cur2, rfl, _, hg2, _⟩
    · cases e
    · have e3 : g = g2 := Option.some.inj e
      rw [← e3, hg] at hg2
      injection hg2 with hg2
      injection hg2 with _ h5 _
      exact he h5
theorem cluL_len (l : List (St × Int)) : (cluL l).length ≤ l.length := by
  induction l with
  | nil => exact Nat.le_refl _
  | cons x t ih =>
    unfold cluL at *
    rw [List.flatMap_cons, List.length_append, List.length_cons]
    have : (if x.1.kind = 5 then [x.1.name] else []).length ≤ 1 := by split <;> simp
    omega
theorem take_pair {l : List (St × Int)} {k : Nat} (h : k < l.length) : l.take (k + 1) = l.take k ++ [l[k]] := by rw [List.take_add_one, List.getElem?_eq_getElem h]; rfl
theorem cluL_snoc (l : List (St × Int)) (x : St × Int) : cluL (l ++ [x]) = cluL l ++ (if x.1.kind = 5 then [x.1.name] else []) := by unfold cluL; rw [List.flatMap_append]; simp
set_option maxRecDepth 100000 in
set_option maxHeartbeats 8000000 in
theorem rclu_of (v : Value) (T : Tr) (L : List (List UInt8)) (w : World) (hT : Hid (TrV w v T)) (hc : cnt T.body ≤ 600) (hL : Hid (clustersT T = L)) :
    Calls Tryz.prog 20 #[v] w (NlOut L w) := by
  obtain ⟨bv, rfl, hnl, hs⟩ := id hT.out
  have hr := hL.out
  unfold clustersT at hr
  obtain ⟨E, hE⟩ : ∃ E, validT T = E := ⟨_, rfl⟩
  rw [hE] at hr
  have HE := Lib.hid hE
  obtain ⟨X, hX⟩ : ∃ X, bb T.name = X := ⟨_, rfl⟩
  have HX := Lib.hid hX
  rw [hX] at hT ⊢
  have hB := al1 w (.cells #[.string X, .bool T.dir, bv] 24)
  have h3 := at3_new w X T.dir bv 24
  have hB1 := hB.alloc (by simp) (.cells #[] 9)
  have h31 := at3_keep h3 (al1 (w.alloc (.cells #[.string X, .bool T.dir, bv] 24)) (.cells #[] 9))
  have HO1 : Hid (Nrow ((w.alloc (.cells #[.string X, .bool T.dir, bv] 24)).alloc (.cells #[] 9)) w.heap.size (.slice (some ⟨w.heap.size + 1, 0, none⟩) 0 0) []) := Lib.hid (by
    have := World.ownsRow_lit (base := w.heap.size) (e := 9) (size := 1) (w.alloc (.cells #[.string X, .bool T.dir, bv] 24)) #[] 0 (by simp) (by decide) rfl
    unfold Nrow; simpa [nmC] using this)
  have HT1 := Lib.hid (hT.out.keep hB1)
  have HS1 := Lib.hid (hs.keep hB1)
  clear hT hL hX hs hnl hE h3 hB
  obtain ⟨c0, c1, c2⟩ := id h31
  go_enter Tryz.func20, Tryz.ntmps20
  go_wp2_with fail
  refine (rvalid_of _ T E _ HT1 hc HE).mono ?_
  rintro e w2 ⟨rfl, hb2⟩
  have hB2 := below_keep hb2 hB1
  have HO2 : Hid (Nrow w2 w.heap.size (.slice (some ⟨w.heap.size + 1, 0, none⟩) 0 0) []) := Lib.hid (own_keep HO1.out hb2)
  have h32 := at3_keep h31 hb2
  have HS2 := Lib.hid (HS1.out.keep hb2)
  clear HS1 c0 c1 c2 h31 HO1 HT1 hb2 hB1
  by_cases hE0 : E = 0
  · subst hE0
    rw [if_pos rfl] at hr
    have HL := Lib.hid hr
    obtain ⟨c0, c1, c2⟩ := id h32
    clear hr
    go_wp2_with fail
    refine (pre_ok T.body _ _ _ 0 (Below.refl _ _) HS2.out hc (by decide) (by omega)).mono ?_
    rintro e w3 ⟨g, oc, F, rfl, hown, hF, hfv, hb3⟩
    have hFl := fin_len hF
    have hF6 : F.length ≤ 600 := by omega
    have hB3 := below_keep hb3 hB2
    have HO3 : Hid (Nrow w3 w.heap.size (.slice (some ⟨w.heap.size + 1, 0, none⟩) 0 0) []) := Lib.hid (own_keep HO2.out hb3)
    have HF := Lib.hid hF
    have HO := Lib.hid hown
    have HFV : Hid (∀ f ∈ F, fvOk w3 f) := Lib.hid (fun f hf => (hfv f hf).keep hb3)
    clear hown hF hfv hb3 HO2 hB2 h32 c0 c1 c2 hFl
    go_wp2_with fail
    go_loopw [3, 5] (fun ov iv wr => ∃ (k : Nat) (C : List (List UInt8)), k ≤ F.length ∧ iv = .int .i64 k ∧ cluL ((preL T.body 0).take k) = C ∧ Nrow wr w.heap.size ov C ∧ wr.ownsRow w2.heap.size 98 6 (.slice (some ⟨g, 0, none⟩) F.length oc) F.length (flatF F) ∧ Below w.heap.size w wr) (fun _ iv _ => F.length - (intOf iv).toNat)
    case atStart => exact ⟨0, [], Nat.zero_le _, rfl, rfl, HO3.out, HO.out, hB3⟩
    case round =>
      obtain ⟨k, C, hk, rfl, hC, hrow, hown, hBr⟩ := hrel
      rename World => wr
      have HOr := Lib.hid hown
      have HC := Lib.hid hC
      have HR := Lib.hid hrow
      have hCl : C.length ≤ 600 := by
        rw [← hC]
        have := cluL_len ((preL T.body 0).take k)
        rw [List.length_take] at this
        omega
      have hsz := hBr.size
      clear hC hrow hown
      by_cases hlt : k < F.length
      · obtain ⟨p0, p1, -, -, -, -⟩ := flat_at HOr.out hlt
        obtain ⟨r0, r1, -, -, -, -⟩ := flat_at2 HOr.out hlt
        obtain ⟨hk2, hgk⟩ := fin_get HF.out hlt
        have hsn := cluL_snoc ((preL T.body 0).take k) (preL T.body 0)[k]
        rw [← take_pair hk2, hgk, HC.out] at hsn
        obtain ⟨f, hfe⟩ : ∃ f, F[k] = f := ⟨_, rfl⟩
        rw [hfe] at p0 p1 r0 r1 hsn
        obtain ⟨s, lv, rv, av, bv'⟩ := f
        simp only at p0 p1 r0 r1 hsn
        have i0 : (0 : Int) ≤ (k : Int) := by omega
        have i1 : (k : Int) < (F.length : Int) := by omega
        clear hfe hgk
        by_cases h5 : s.kind = 5
        · rw [if_pos h5] at hsn
          have HN := Lib.hid hsn
          have b5 : (s.kind == 5) = true := by rw [beq_iff_eq]; exact h5
          clear hsn h5
          go_wp2_with (at_builtin; refine app_name rfl (.tmp 27) (.tmp 34) rfl w.heap.size _ C s.name rfl rfl HR (by omega) (by omega) ?_; intro v4 w4 hrow4 hgrow4; have hB4 := hBr.grown hgrow4 (by omega) (fun q hq => (World.ownsRow.lt HR.out q hq).1); have HO4 := Lib.hid (World.ownsRow.kept HOr.out hgrow4 (own_far HOr.out HR.out (by decide))); clear hgrow4)
          go_roundw
          case rel => exact ⟨k + 1, _, by omega, by go_num, HN.out, hrow4, HO4.out, hB4⟩
          case measure => simp [intOf]; omega
        · rw [if_neg h5, List.append_nil] at hsn
          have HN := Lib.hid hsn
          have b5 : (s.kind == 5) = false := by rw [beq_eq_false_iff_ne]; exact h5
          clear hsn h5
          go_wp2
          go_roundw
          case rel => exact ⟨k + 1, C, by omega, by go_num, HN.out, HR.out, HOr.out, hBr⟩
          case measure => simp [intOf]; omega
      · obtain rfl : k = F.length := by omega
        have HN : Hid (C = L) := Lib.hid (by
          rw [← HL.out, ← HC.out, ← HF.out, List.take_of_length_le (by rw [List.length_map]; exact Nat.le_refl _)])
        obtain rfl := HN.out
        go_wp2
        go_ret
        exact ⟨_, rfl, HR.out.nl, hBr⟩
  · rw [if_neg hE0] at hr
    subst hr
    have b1 : (E != 0) = true := by simp [hE0]
    clear hE0
    go_wp2
    go_ret
    exact ⟨_, rfl, HO2.out.nl, hB2⟩
end Go.Proofs.YtcdoicgbjoikkaaGreatDoor.tre
namespace Go.Proofs.YtcdoicgbjoikkaaGreatDoor.tre
open Go.RowKit lex

theorem nms_snoc (l : List (St × Int)) (x : St × Int) : uniq (nmsL (l ++ [x])) = (nmsS x.1).foldl addN (uniq (nmsL l)) := by
  unfold uniq nmsL; rw [List.flatMap_append, List.foldl_append]; simp
/-- A statement in a block of its own. -/
def stB (w : World) (b : Nat) (k : Int) (x : ByteArray) (rv av bv : Value) : Prop := w.heap[b]? = some (.cells #[.int .i64 k, .string x, rv, av, bv] 56 (0, 0))
theorem stB_new (w : World) (k : Int) (x : ByteArray) (rv av bv : Value) : stB (w.alloc (.cells #[.int .i64 k, .string x, rv, av, bv] 56)) w.heap.size k x rv av bv := heap_alloc_new w _
theorem stB.at5 {w : World} {b : Nat} {k : Int} {x : ByteArray} {rv av bv : Value} (h : stB w b k x rv av bv) : at5 w b k x rv av bv := by
  refine ⟨?_, ?_, ?_, ?_, ?_⟩ <;> simp [World.cell?, show w.heap[b]? = _ from h]
theorem stB.grown {w w' : World} {b : Nat} {k : Int} {x : ByteArray} {rv av bv : Value} {B : Nat} {v : Value} {l : List (List UInt8)} (h : stB w b k x rv av bv) (hg : w.grownBy w' v.ownBlock) (hr : Nrow w B v l) : stB w' b k x rv av bv := by
  unfold stB at h ⊢
  rw [hg.block b (Array.getElem?_eq_some_iff.1 h).1 (fun e => ?_)]
  · exact h
  · rcases hr.2 with ⟨rfl, _⟩ | ⟨g, cap, cur, rfl, _, hg2, _⟩
    · cases e
    · have e2 : b = g := Option.some.inj e
      rw [← e2, h] at hg2
      injection hg2 with hg2
      injection hg2 with _ h5 _
      exact absurd h5 (by decide)
theorem nms_step {r : List Pr} {j : Nat} {C D : List (List UInt8)} (h : ((r.take j).map (·.1)).foldl addN C = D) (hj : j < r.length) : ((r.take (j + 1)).map (·.1)).foldl addN C = addN D r[j].1 := by
  rw [take_pr hj, List.map_append, List.foldl_append, h]; rfl
set_option maxRecDepth 100000 in
set_option maxHeartbeats 8000000 in
theorem rnms_of (v : Value) (T : Tr) (L : List (List UInt8)) (w : World) (hT : Hid (TrV w v T)) (hc : cnt T.body ≤ 600) (hok : okL T.body) (hL : Hid (namesT T = L)) :
    Calls Tryz.prog 19 #[v] w (NlOut L w) := by
  obtain ⟨bv, rfl, hnl, hs⟩ := id hT.out
  have hr := hL.out
  unfold namesT at hr
  obtain ⟨E, hE⟩ : ∃ E, validT T = E := ⟨_, rfl⟩
  rw [hE] at hr
  have HE := Lib.hid hE
  obtain ⟨X, hX⟩ : ∃ X, bb T.name = X := ⟨_, rfl⟩
  have HX := Lib.hid hX
  rw [hX] at hT ⊢
  have hB := al1 w (.cells #[.string X, .bool T.dir, bv] 24)
  have h3 := at3_new w X T.dir bv 24
  have hB1 := hB.alloc (by simp) (.cells #[] 9)
  have h31 := at3_keep h3 (al1 (w.alloc (.cells #[.string X, .bool T.dir, bv] 24)) (.cells #[] 9))
  have HO1 : Hid (Nrow ((w.alloc (.cells #[.string X, .bool T.dir, bv] 24)).alloc (.cells #[] 9)) w.heap.size (.slice (some ⟨w.heap.size + 1, 0, none⟩) 0 0) []) := Lib.hid (by
    have := World.ownsRow_lit (base := w.heap.size) (e := 9) (size := 1) (w.alloc (.cells #[.string X, .bool T.dir, bv] 24)) #[] 0 (by simp) (by decide) rfl
    unfold Nrow; simpa [nmC] using this)
  have HT1 := Lib.hid (hT.out.keep hB1)
  have HS0 := Lib.hid hs
  clear hT hL hX hs hnl hE h3 hB
  obtain ⟨c0, c1, c2⟩ := id h31
  go_enter Tryz.func19, Tryz.ntmps19
  go_wp2_with fail
  refine (rvalid_of _ T E _ HT1 hc HE).mono ?_
  rintro e w2 ⟨rfl, hb2⟩
  have hB2 := below_keep hb2 hB1
  have HO2 : Hid (Nrow w2 w.heap.size (.slice (some ⟨w.heap.size + 1, 0, none⟩) 0 0) []) := Lib.hid (own_keep HO1.out hb2)
  have h32 := at3_keep h31 hb2
  clear c0 c1 c2 h31 HO1 HT1 hb2 hB1
  by_cases hE0 : E = 0
  · subst hE0
    rw [if_pos rfl] at hr
    have HL := Lib.hid hr
    obtain ⟨c0, c1, c2⟩ := id h32
    clear hr
    go_wp2_with fail
    refine (pre_ok T.body w _ _ 0 hB2 HS0.out hc (by decide) (by omega)).mono ?_
    rintro e w3 ⟨g, oc, F, rfl, hown, hF, hfv, hb3⟩
    have hFl := fin_len hF
    have hF6 : F.length ≤ 600 := by omega
    have hB3 := below_keep hb3 hB2
    have HO3 : Hid (Nrow w3 w.heap.size (.slice (some ⟨w.heap.size + 1, 0, none⟩) 0 0) []) := Lib.hid (own_keep HO2.out hb3)
    have HF := Lib.hid hF
    have HO := Lib.hid hown
    have HFV : Hid (∀ f ∈ F, fvOk w f) := Lib.hid hfv
    clear hown hF hfv hb3 HO2 hB2 h32 c0 c1 c2 hFl
    go_wp2_with fail
    go_loopw [3, 5] (fun ov iv wr => ∃ (k : Nat) (C : List (List UInt8)), k ≤ F.length ∧ iv = .int .i64 k ∧ uniq (nmsL ((preL T.body 0).take k)) = C ∧ C.length ≤ 41 * k ∧ Nrow wr w.heap.size ov C ∧ wr.ownsRow w2.heap.size 98 6 (.slice (some ⟨g, 0, none⟩) F.length oc) F.length (flatF F) ∧ Below w.heap.size w wr) (fun _ iv _ => F.length - (intOf iv).toNat)
    case atStart => exact ⟨0, [], Nat.zero_le _, rfl, rfl, Nat.zero_le _, HO3.out, HO.out, hB3⟩
    case round =>
      obtain ⟨k, C, hk, rfl, hC, hCl, hrow, hown, hBr⟩ := hrel
      rename World => wr
      have HOr := Lib.hid hown
      have HC := Lib.hid hC
      have HR := Lib.hid hrow
      have hsz := hBr.size
      clear hC hrow hown
      by_cases hlt : k < F.length
      · obtain ⟨p0, p1, p2, p3, p4, p5⟩ := flat_at HOr.out hlt
        obtain ⟨r0, r1, r2, r3, r4, r5⟩ := flat_at2 HOr.out hlt
        obtain ⟨hk2, hgk⟩ := fin_get HF.out hlt
        have hsn := nms_snoc ((preL T.body 0).take k) (preL T.body 0)[k]
        rw [← take_pair hk2, hgk, HC.out] at hsn
        have hrl := (hok _ (List.getElem_mem hk2)).1
        rw [hgk] at hrl
        have hfk := HFV.out _ (List.getElem_mem hlt)
        obtain ⟨f, hfe⟩ : ∃ f, F[k] = f := ⟨_, rfl⟩
        rw [hfe] at p0 p1 p2 p3 p4 p5 r0 r1 r2 r3 r4 r5 hsn hrl hfk
        obtain ⟨s, lv, rv, av, bv'⟩ := f
        simp only at p0 p1 p2 p3 p4 p5 r0 r1 r2 r3 r4 r5 hsn hrl
        have HSN := Lib.hid hsn
        have hfk1 := hfk.2.1
        have hfk2 := hfk.2.2.1
        have hfk3 := hfk.2.2.2
        simp only at hfk1 hfk2 hfk3
        obtain ⟨ro, rc, rfl, hr1, hr2, _⟩ := id hfk1
        obtain ⟨so, sc, rfl, _, _, _⟩ := hfk2
        obtain ⟨bo, bc, rfl, _, _, _⟩ := hfk3
        have HFK := Lib.hid hfk1
        clear hfk1
        have i0 : (0 : Int) ≤ (k : Int) := by omega
        have i1 : (k : Int) < (F.length : Int) := by omega
        clear hfe hgk hsn hfk
        have hBa := hBr.alloc hsz (.cells #[.int .i64 s.kind, .string (bb s.name), .slice ro s.refs.length rc, .slice so s.attrs.length sc, .slice bo s.body.length bc] 56)
        have HSa := Lib.hid (stB_new wr s.kind (bb s.name) (.slice ro s.refs.length rc) (.slice so s.attrs.length sc) (.slice bo s.body.length bc))
        have HRa : Hid (Nrow _ w.heap.size _ C) := Lib.hid (World.ownsRow.alloc HR.out (.cells #[.int .i64 s.kind, .string (bb s.name), .slice ro s.refs.length rc, .slice so s.attrs.length sc, .slice bo s.body.length bc] 56))
        have HOa := Lib.hid (World.ownsRow.alloc HOr.out (.cells #[.int .i64 s.kind, .string (bb s.name), .slice ro s.refs.length rc, .slice so s.attrs.length sc, .slice bo s.body.length bc] 56))
        have NLa := Lib.hid HRa.out.nl
        have hza := hBa.size
        obtain ⟨a0, a1, a2, a3, a4⟩ := HSa.out.at5
        by_cases h1 : s.kind = 1
        · have b5 : (s.kind == 1) = true := by rw [beq_iff_eq]; exact h1
          obtain ⟨cq, hcq⟩ : ∃ b, C.contains s.name = b := ⟨_, rfl⟩
          have HCQ := Lib.hid hcq
          have hsn2 := HSN.out
          rw [nmsS, if_pos h1, List.foldl_append, List.foldl_cons, List.foldl_nil, addN, hcq] at hsn2
          clear HSN h1 hcq
          cases cq
          · rw [if_neg (by decide)] at hsn2
            have HSN := Lib.hid hsn2
            clear hsn2
            go_wp2_with (first | (go_at_call 48; refine (rhas_of _ _ _ _ _ NLa HCQ).mono ?_; rintro e w5 ⟨rfl, hw5⟩; rw [hw5] at hBa HSa HRa HOa hza a0 a1 a2 a3 a4) | (at_builtin; refine app_name rfl (.tmp 37) (.tmp 40) rfl w.heap.size _ C s.name rfl rfl HRa (by omega) (by omega) ?_; intro v4 w4 hrow4 hgrow4; have hB4 := hBa.grown hgrow4 (by omega) (fun q hq => (World.ownsRow.lt HRa.out q hq).1); have HO4 := Lib.hid (World.ownsRow.kept HOa.out hgrow4 (own_far HOa.out HRa.out (by decide))); have HS4 := Lib.hid (HSa.out.grown hgrow4 HRa.out); have HR4 := Lib.hid hrow4; clear hgrow4 hrow4 a0 a1 a2 a3 a4))
            go_loopw [3, 7] (fun ov jv wz => ∃ (j : Nat) (D : List (List UInt8)), j ≤ s.refs.length ∧ jv = .int .i64 j ∧ ((s.refs.take j).map (·.1)).foldl addN (C ++ [s.name]) = D ∧ D.length ≤ 41 * k + 1 + j ∧ Nrow wz w.heap.size ov D ∧ wz.ownsRow w2.heap.size 98 6 (.slice (some ⟨g, 0, none⟩) F.length oc) F.length (flatF F) ∧ stB wz wr.heap.size s.kind (bb s.name) (.slice ro s.refs.length rc) (.slice so s.attrs.length sc) (.slice bo s.body.length bc) ∧ Below w.heap.size w wz) (fun _ jv _ => s.refs.length - (intOf jv).toNat)
            case atStart => exact ⟨0, C ++ [s.name], Nat.zero_le _, rfl, rfl, by simp; omega, HR4.out, HO4.out, HS4.out, hB4⟩
            case round =>
              obtain ⟨j, D, hj, rfl, hD, hDl, hrw, hoz, hsz2, hBz⟩ := hrel
              rename World => wz
              have HD := Lib.hid hD
              have HRW := Lib.hid hrw
              have HOZ := Lib.hid hoz
              have HSZ := Lib.hid hsz2
              have hzz := hBz.size
              clear hD hrw hoz hsz2
              obtain ⟨c0, c1, c2, c3, c4⟩ := HSZ.out.at5
              by_cases hjl : j < s.refs.length
              · obtain ⟨A, rfl, q0, q1, q2, q3⟩ := (HFK.out.keep hBz).get hjl
                have hstep := nms_step HD.out hjl
                obtain ⟨y, hy⟩ : ∃ y, s.refs[j] = y := ⟨_, rfl⟩
                rw [hy] at q0 q1 hstep
                have j0 : (0 : Int) ≤ (j : Int) := by omega
                have j1 : (j : Int) < (s.refs.length : Int) := by omega
                have NL := Lib.hid HRW.out.nl
                obtain ⟨dq, hdq⟩ : ∃ b, D.contains y.1 = b := ⟨_, rfl⟩
                have HDQ := Lib.hid hdq
                rw [addN, hdq] at hstep
                have HST := Lib.hid hstep
                clear hy hdq hstep q2 q3
                cases dq
                · have HN : Hid (((s.refs.take (j + 1)).map (·.1)).foldl addN (C ++ [s.name]) = D ++ [y.1]) := Lib.hid (by rw [HST.out, if_neg (by decide)])
                  go_wp2_with (first | (go_at_call 48; refine (rhas_of _ _ _ _ _ NL HDQ).mono ?_; rintro e w' ⟨rfl, rfl⟩) | (at_builtin; refine app_name rfl (.tmp 58) (.tmp 65) rfl w.heap.size _ D y.1 rfl rfl HRW (by omega) (by omega) ?_; intro v6 w6 hrow6 hgrow6; have hB6 := hBz.grown hgrow6 (by omega) (fun q hq => (World.ownsRow.lt HRW.out q hq).1); have HO6 := Lib.hid (World.ownsRow.kept HOZ.out hgrow6 (own_far HOZ.out HRW.out (by decide))); have HS6 := Lib.hid (HSZ.out.grown hgrow6 HRW.out); clear hgrow6))
                  go_roundw
                  case rel => exact ⟨j + 1, _, by omega, by go_num, HN.out, by simp; omega, hrow6, HO6.out, HS6.out, hB6⟩
                  case measure => simp [intOf]; omega
                · have HN : Hid (((s.refs.take (j + 1)).map (·.1)).foldl addN (C ++ [s.name]) = D) := Lib.hid (by rw [HST.out, if_pos rfl])
                  go_wp2_with (go_at_call 48; refine (rhas_of _ _ _ _ _ NL HDQ).mono ?_; rintro e w' ⟨rfl, rfl⟩)
                  go_roundw
                  case rel => exact ⟨j + 1, D, by omega, by go_num, HN.out, by omega, HRW.out, HOZ.out, HSZ.out, hBz⟩
                  case measure => simp [intOf]; omega
              · obtain rfl : j = s.refs.length := by omega
                have HN : Hid (uniq (nmsL ((preL T.body 0).take (k + 1))) = D) := Lib.hid (by rw [HSN.out, ← HD.out, List.take_length])
                go_wp2
                go_roundw
                case rel => exact ⟨k + 1, D, by omega, by go_num, HN.out, by omega, HRW.out, HOZ.out, hBz⟩
                case measure => simp [intOf]; omega
          · rw [if_pos rfl] at hsn2
            have HSN := Lib.hid hsn2
            clear hsn2
            go_wp2_with (go_at_call 48; refine (rhas_of _ _ _ _ _ NLa HCQ).mono ?_; rintro e w' ⟨rfl, rfl⟩)
            clear a0 a1 a2 a3 a4
            go_loopw [3, 7] (fun ov jv wz => ∃ (j : Nat) (D : List (List UInt8)), j ≤ s.refs.length ∧ jv = .int .i64 j ∧ ((s.refs.take j).map (·.1)).foldl addN (C) = D ∧ D.length ≤ 41 * k + 1 + j ∧ Nrow wz w.heap.size ov D ∧ wz.ownsRow w2.heap.size 98 6 (.slice (some ⟨g, 0, none⟩) F.length oc) F.length (flatF F) ∧ stB wz wr.heap.size s.kind (bb s.name) (.slice ro s.refs.length rc) (.slice so s.attrs.length sc) (.slice bo s.body.length bc) ∧ Below w.heap.size w wz) (fun _ jv _ => s.refs.length - (intOf jv).toNat)
            case atStart => exact ⟨0, C, Nat.zero_le _, rfl, rfl, by simp; omega, HRa.out, HOa.out, HSa.out, hBa⟩
            case round =>
              obtain ⟨j, D, hj, rfl, hD, hDl, hrw, hoz, hsz2, hBz⟩ := hrel
              rename World => wz
              have HD := Lib.hid hD
              have HRW := Lib.hid hrw
              have HOZ := Lib.hid hoz
              have HSZ := Lib.hid hsz2
              have hzz := hBz.size
              clear hD hrw hoz hsz2
              obtain ⟨c0, c1, c2, c3, c4⟩ := HSZ.out.at5
              by_cases hjl : j < s.refs.length
              · obtain ⟨A, rfl, q0, q1, q2, q3⟩ := (HFK.out.keep hBz).get hjl
                have hstep := nms_step HD.out hjl
                obtain ⟨y, hy⟩ : ∃ y, s.refs[j] = y := ⟨_, rfl⟩
                rw [hy] at q0 q1 hstep
                have j0 : (0 : Int) ≤ (j : Int) := by omega
                have j1 : (j : Int) < (s.refs.length : Int) := by omega
                have NL := Lib.hid HRW.out.nl
                obtain ⟨dq, hdq⟩ : ∃ b, D.contains y.1 = b := ⟨_, rfl⟩
                have HDQ := Lib.hid hdq
                rw [addN, hdq] at hstep
                have HST := Lib.hid hstep
                clear hy hdq hstep q2 q3
                cases dq
                · have HN : Hid (((s.refs.take (j + 1)).map (·.1)).foldl addN (C) = D ++ [y.1]) := Lib.hid (by rw [HST.out, if_neg (by decide)])
                  go_wp2_with (first | (go_at_call 48; refine (rhas_of _ _ _ _ _ NL HDQ).mono ?_; rintro e w' ⟨rfl, rfl⟩) | (at_builtin; refine app_name rfl (.tmp 58) (.tmp 65) rfl w.heap.size _ D y.1 rfl rfl HRW (by omega) (by omega) ?_; intro v6 w6 hrow6 hgrow6; have hB6 := hBz.grown hgrow6 (by omega) (fun q hq => (World.ownsRow.lt HRW.out q hq).1); have HO6 := Lib.hid (World.ownsRow.kept HOZ.out hgrow6 (own_far HOZ.out HRW.out (by decide))); have HS6 := Lib.hid (HSZ.out.grown hgrow6 HRW.out); clear hgrow6))
                  go_roundw
                  case rel => exact ⟨j + 1, _, by omega, by go_num, HN.out, by simp; omega, hrow6, HO6.out, HS6.out, hB6⟩
                  case measure => simp [intOf]; omega
                · have HN : Hid (((s.refs.take (j + 1)).map (·.1)).foldl addN (C) = D) := Lib.hid (by rw [HST.out, if_pos rfl])
                  go_wp2_with (go_at_call 48; refine (rhas_of _ _ _ _ _ NL HDQ).mono ?_; rintro e w' ⟨rfl, rfl⟩)
                  go_roundw
                  case rel => exact ⟨j + 1, D, by omega, by go_num, HN.out, by omega, HRW.out, HOZ.out, HSZ.out, hBz⟩
                  case measure => simp [intOf]; omega
              · obtain rfl : j = s.refs.length := by omega
                have HN : Hid (uniq (nmsL ((preL T.body 0).take (k + 1))) = D) := Lib.hid (by rw [HSN.out, ← HD.out, List.take_length])
                go_wp2
                go_roundw
                case rel => exact ⟨k + 1, D, by omega, by go_num, HN.out, by omega, HRW.out, HOZ.out, hBz⟩
                case measure => simp [intOf]; omega
        · have b5 : (s.kind == 1) = false := by rw [beq_eq_false_iff_ne]; exact h1
          have hsn2 := HSN.out
          rw [nmsS, if_neg h1, List.nil_append] at hsn2
          clear HSN h1
          have HSN := Lib.hid hsn2
          clear hsn2
          go_wp2_with fail
          clear a0 a1 a2 a3 a4
          go_loopw [3, 7] (fun ov jv wz => ∃ (j : Nat) (D : List (List UInt8)), j ≤ s.refs.length ∧ jv = .int .i64 j ∧ ((s.refs.take j).map (·.1)).foldl addN (C) = D ∧ D.length ≤ 41 * k + 1 + j ∧ Nrow wz w.heap.size ov D ∧ wz.ownsRow w2.heap.size 98 6 (.slice (some ⟨g, 0, none⟩) F.length oc) F.length (flatF F) ∧ stB wz wr.heap.size s.kind (bb s.name) (.slice ro s.refs.length rc) (.slice so s.attrs.length sc) (.slice bo s.body.length bc) ∧ Below w.heap.size w wz) (fun _ jv _ => s.refs.length - (intOf jv).toNat)
          case atStart => exact ⟨0, C, Nat.zero_le _, rfl, rfl, by simp; omega, HRa.out, HOa.out, HSa.out, hBa⟩
          case round =>
            obtain ⟨j, D, hj, rfl, hD, hDl, hrw, hoz, hsz2, hBz⟩ := hrel
            rename World => wz
            have HD := Lib.hid hD
            have HRW := Lib.hid hrw
            have HOZ := Lib.hid hoz
            have HSZ := Lib.hid hsz2
            have hzz := hBz.size
            clear hD hrw hoz hsz2
            obtain ⟨c0, c1, c2, c3, c4⟩ := HSZ.out.at5
            by_cases hjl : j < s.refs.length
            · obtain ⟨A, rfl, q0, q1, q2, q3⟩ := (HFK.out.keep hBz).get hjl
              have hstep := nms_step HD.out hjl
              obtain ⟨y, hy⟩ : ∃ y, s.refs[j] = y := ⟨_, rfl⟩
              rw [hy] at q0 q1 hstep
              have j0 : (0 : Int) ≤ (j : Int) := by omega
              have j1 : (j : Int) < (s.refs.length : Int) := by omega
              have NL := Lib.hid HRW.out.nl
              obtain ⟨dq, hdq⟩ : ∃ b, D.contains y.1 = b := ⟨_, rfl⟩
              have HDQ := Lib.hid hdq
              rw [addN, hdq] at hstep
              have HST := Lib.hid hstep
              clear hy hdq hstep q2 q3
              cases dq
              · have HN : Hid (((s.refs.take (j + 1)).map (·.1)).foldl addN (C) = D ++ [y.1]) := Lib.hid (by rw [HST.out, if_neg (by decide)])
                go_wp2_with (first | (go_at_call 48; refine (rhas_of _ _ _ _ _ NL HDQ).mono ?_; rintro e w' ⟨rfl, rfl⟩) | (at_builtin; refine app_name rfl (.tmp 58) (.tmp 65) rfl w.heap.size _ D y.1 rfl rfl HRW (by omega) (by omega) ?_; intro v6 w6 hrow6 hgrow6; have hB6 := hBz.grown hgrow6 (by omega) (fun q hq => (World.ownsRow.lt HRW.out q hq).1); have HO6 := Lib.hid (World.ownsRow.kept HOZ.out hgrow6 (own_far HOZ.out HRW.out (by decide))); have HS6 := Lib.hid (HSZ.out.grown hgrow6 HRW.out); clear hgrow6))
                go_roundw
                case rel => exact ⟨j + 1, _, by omega, by go_num, HN.out, by simp; omega, hrow6, HO6.out, HS6.out, hB6⟩
                case measure => simp [intOf]; omega
              · have HN : Hid (((s.refs.take (j + 1)).map (·.1)).foldl addN (C) = D) := Lib.hid (by rw [HST.out, if_pos rfl])
                go_wp2_with (go_at_call 48; refine (rhas_of _ _ _ _ _ NL HDQ).mono ?_; rintro e w' ⟨rfl, rfl⟩)
                go_roundw
                case rel => exact ⟨j + 1, D, by omega, by go_num, HN.out, by omega, HRW.out, HOZ.out, HSZ.out, hBz⟩
                case measure => simp [intOf]; omega
            · obtain rfl : j = s.refs.length := by omega
              have HN : Hid (uniq (nmsL ((preL T.body 0).take (k + 1))) = D) := Lib.hid (by rw [HSN.out, ← HD.out, List.take_length])
              go_wp2
              go_roundw
              case rel => exact ⟨k + 1, D, by omega, by go_num, HN.out, by omega, HRW.out, HOZ.out, hBz⟩
              case measure => simp [intOf]; omega
      · obtain rfl : k = F.length := by omega
        have HN : Hid (C = L) := Lib.hid (by
          rw [← HL.out, ← HC.out, ← HF.out, List.take_of_length_le (by rw [List.length_map]; exact Nat.le_refl _)])
        obtain rfl := HN.out
        go_wp2
        go_ret
        exact ⟨_, rfl, HR.out.nl, hBr⟩
  · rw [if_neg hE0] at hr
    subst hr
    have b1 : (E != 0) = true := by simp [hE0]
    clear hE0
    go_wp2
    go_ret
    exact ⟨_, rfl, HO2.out.nl, hB2⟩
end Go.Proofs.YtcdoicgbjoikkaaGreatDoor.tre
