/-
  What Valid and Count of the reference of layer 7 return. Condition: a tree of at most 600 statements in memory.
-/
import Derived.Test.YtmpjdlhigmofdaaTreSta
namespace Go.Proofs.Ytmpjdlhigmofdaa.tre
open Go.RowKit lex

/-- The six cells of a place of a row of statements with levels. -/
theorem flat_at {w : World} {B g cap : Nat} {F : List FV} (h : w.ownsRow B 49 6 (.slice (some ⟨g, 0, none⟩) F.length cap) F.length (flatF F)) {i : Nat} (hi : i < F.length) :
    w.cell? ((⟨g, 0, none⟩ : Addr).add (i * 6)) = some (.int .i64 F[i].s.kind) ∧ w.cell? ⟨((⟨g, 0, none⟩ : Addr).add (i * 6)).block, ((⟨g, 0, none⟩ : Addr).add (i * 6)).off + 1, none⟩ = some (.string (bb F[i].s.name)) ∧
    w.cell? ⟨((⟨g, 0, none⟩ : Addr).add (i * 6)).block, ((⟨g, 0, none⟩ : Addr).add (i * 6)).off + 2, none⟩ = some F[i].rv ∧ w.cell? ⟨((⟨g, 0, none⟩ : Addr).add (i * 6)).block, ((⟨g, 0, none⟩ : Addr).add (i * 6)).off + 3, none⟩ = some F[i].av ∧
    w.cell? ⟨((⟨g, 0, none⟩ : Addr).add (i * 6)).block, ((⟨g, 0, none⟩ : Addr).add (i * 6)).off + 4, none⟩ = some F[i].bv ∧ w.cell? ⟨((⟨g, 0, none⟩ : Addr).add (i * 6)).block, ((⟨g, 0, none⟩ : Addr).add (i * 6)).off + 5, none⟩ = some (.int .i64 F[i].lv) := by
  have c := World.ownsRow.cells h (g := g) rfl
  have eb : ((⟨g, 0, none⟩ : Addr).add (i * 6)).block = g := by unfold Addr.add; split <;> rfl
  have eo : ((⟨g, 0, none⟩ : Addr).add (i * 6)).off = i * 6 := by
    unfold Addr.add; split
    · simp; omega
    · simp
  have key : ∀ j u, (cellsF F[i])[j]? = some u → 0 < j → w.cell? ⟨g, i * 6 + j, none⟩ = some u := by
    intro j u hj h0
    have := c _ _ (flatF_get F i hi j u hj)
    rw [add_one_of _ _ (by omega)] at this
    simpa using this
  rw [eb, eo]
  refine ⟨?_, key 1 _ rfl (by decide), key 2 _ rfl (by decide), key 3 _ rfl (by decide), key 4 _ rfl (by decide), key 5 _ rfl (by decide)⟩
  have := c _ _ (flatF_get F i hi 0 _ rfl)
  simpa using this
/-- The same cells, their places written out. -/
theorem flat_at2 {w : World} {B g cap : Nat} {F : List FV} (h : w.ownsRow B 49 6 (.slice (some ⟨g, 0, none⟩) F.length cap) F.length (flatF F)) {i : Nat} (hi : i < F.length) :
    w.cell? ⟨g, i * 6, none⟩ = some (.int .i64 F[i].s.kind) ∧ w.cell? ⟨g, i * 6 + 1, none⟩ = some (.string (bb F[i].s.name)) ∧ w.cell? ⟨g, i * 6 + 2, none⟩ = some F[i].rv ∧
    w.cell? ⟨g, i * 6 + 3, none⟩ = some F[i].av ∧ w.cell? ⟨g, i * 6 + 4, none⟩ = some F[i].bv ∧ w.cell? ⟨g, i * 6 + 5, none⟩ = some (.int .i64 F[i].lv) := by
  have c := World.ownsRow.cells h (g := g) rfl
  have key : ∀ j u, (cellsF F[i])[j]? = some u → 0 < j → w.cell? ⟨g, i * 6 + j, none⟩ = some u := by
    intro j u hj h0
    have := c _ _ (flatF_get F i hi j u hj)
    rw [add_one_of _ _ (by omega)] at this
    simpa using this
  obtain ⟨h0, -⟩ := flat_at h hi
  refine ⟨?_, key 1 _ rfl (by decide), key 2 _ rfl (by decide), key 3 _ rfl (by decide), key 4 _ rfl (by decide), key 5 _ rfl (by decide)⟩
  rw [← h0]; unfold Addr.add; split
  · rename_i hz; have : i = 0 := by (try simp at hz); omega
    subst this; rfl
  · simp
theorem fin_len {F : List FV} {l : List St} {lv : Int} (h : F.map (fun f => (f.s, f.lv)) = preL l lv) : F.length = cnt l := by
  have := congrArg List.length h
  rw [List.length_map] at this
  rw [this]; exact pre_len.2 _ _ _
theorem firstE_drop {L : List (St × Int)} {k : Nat} (h : k < L.length) : firstE (L.drop k) = if staE L[k].1 L[k].2 ≠ 0 then staE L[k].1 L[k].2 else firstE (L.drop (k + 1)) := by
  rw [List.drop_eq_getElem_cons h, firstE]
theorem fin_get {F : List FV} {L : List (St × Int)} (h : F.map (fun f => (f.s, f.lv)) = L) {k : Nat} (hk : k < F.length) : ∃ hk2 : k < L.length, L[k] = (F[k].s, F[k].lv) := by
  subst h
  exact ⟨by rw [List.length_map]; exact hk, by rw [List.getElem_map]⟩
/-- A tree in a block of its own. -/
def at3 (w : World) (b : Nat) (x : ByteArray) (d : Bool) (bv : Value) : Prop := w.cell? ⟨b, 0, none⟩ = some (.string x) ∧ w.cell? ⟨b, 1, none⟩ = some (.bool d) ∧ w.cell? ⟨b, 2, none⟩ = some bv
theorem at3_new (w : World) (x : ByteArray) (d : Bool) (bv : Value) (t : TypeId) : at3 (w.alloc (.cells #[.string x, .bool d, bv] t)) w.heap.size x d bv := by
  refine ⟨?_, ?_, ?_⟩ <;> go_simp
theorem at3_keep {w1 w2 : World} {b : Nat} {x : ByteArray} {d : Bool} {bv : Value} (h : at3 w1 b x d bv) (h2 : Below w1.heap.size w1 w2) : at3 w2 b x d bv := ⟨cell_keep h2 h.1, cell_keep h2 h.2.1, cell_keep h2 h.2.2⟩
set_option maxRecDepth 100000 in
set_option maxHeartbeats 8000000 in
theorem rvalid_of (v : Value) (T : Tr) (R : Int) (w : World) (hT : Hid (TrV w v T)) (hc : cnt T.body ≤ 600) (hR : Hid (validT T = R)) :
    Calls Try.prog 13 #[v] w fun e w' => e = .returned (.int .i64 R) ∧ Below w.heap.size w w' := by
  obtain ⟨bv, rfl, hnl, hs⟩ := hT.out
  have hr := hR.out
  unfold validT at hr
  obtain ⟨X, hX⟩ : ∃ X, bb T.name = X := ⟨_, rfl⟩
  have hXd : X.data.toList = T.name := by rw [← hX]
  have HZ := Lib.hid (show X.size ≤ maxLen by rw [← b_size, hXd]; exact hnl)
  obtain ⟨nm, hnm⟩ : ∃ q, isNm T.name = q := ⟨_, rfl⟩
  have HNM : Hid (isNm X.data.toList = nm) := Lib.hid (by rw [hXd]; exact hnm)
  rw [hX]
  rw [hnm] at hr
  have hB := al1 w (.cells #[.string X, .bool T.dir, bv] 24)
  have h3 := at3_new w X T.dir bv 24
  have HS1 := Lib.hid (hs.keep hB)
  have hsz1 : w.heap.size < (w.alloc (.cells #[.string X, .bool T.dir, bv] 24)).heap.size := by simp
  clear hT hR hX hXd hnm hs hnl
  cases nm
  · rw [if_pos rfl] at hr
    subst hr
    obtain ⟨c0, c1, c2⟩ := h3
    go_enter Try.func13, Try.ntmps13
    go_wp2_with (go_at_call 27; refine (rnm_of _ _ _ HZ.out HNM).mono ?_; rintro e w' ⟨rfl, rfl⟩)
    go_ret
    exact ⟨rfl, hB⟩
  rw [if_neg (by decide)] at hr
  have HR := Lib.hid hr
  clear hr
  obtain ⟨c0, c1, c2⟩ := id h3
  go_enter Try.func13, Try.ntmps13
  go_wp2_with fail
  refine (rnm_of _ _ _ HZ.out HNM).mono ?_
  rintro e w' ⟨rfl, rfl⟩
  go_wp2_with fail
  refine (pre_ok T.body _ _ bv 0 (Below.refl _ _) HS1.out hc (by decide) (by omega)).mono ?_
  rintro e w2 ⟨g, oc, F, rfl, hown, hF, hfv, hb2⟩
  have hFl := fin_len hF
  have hB2 := below_keep hb2 hB
  have HO := Lib.hid hown
  have HF := Lib.hid hF
  have HFV : Hid (∀ f ∈ F, fvOk w2 f) := Lib.hid (fun f hf => (hfv f hf).keep hb2)
  clear c0 c1 c2 h3 hown hF hfv hb2 hsz1
  by_cases g5 : 512 < F.length
  · have HN : Hid (R = 2) := Lib.hid (by have := HR.out; rw [if_pos (by omega)] at this; exact this.symm)
    obtain rfl := HN.out
    have l5 : (512 : Int) < (F.length : Int) := by omega
    clear g5 hFl
    go_wp2
    go_ret
    exact ⟨rfl, hB2⟩
  have HR2 : Hid (firstE (preL T.body 0) = R) := Lib.hid (by have := HR.out; rw [if_neg (by omega)] at this; exact this)
  have l5 : ¬ (512 : Int) < (F.length : Int) := by omega
  have hF512 : F.length ≤ 512 := by omega
  clear g5 hFl HR
  go_wp2_with fail
  go_loopw [4] (fun iv wr => ∃ k : Nat, k ≤ F.length ∧ iv = .int .i64 k ∧ firstE ((preL T.body 0).drop k) = R ∧ Below w2.heap.size w2 wr) (fun iv _ => F.length - (intOf iv).toNat)
  case atStart => exact ⟨0, Nat.zero_le _, rfl, HR2.out, Below.refl _ _⟩
  case round =>
    obtain ⟨k, hk, rfl, hfe, hBr⟩ := hrel
    rename World => wr
    have HFE := Lib.hid hfe
    clear hfe HR2
    by_cases hlt : k < F.length
    · obtain ⟨p0, p1, p2, p3, p4, p5⟩ := flat_at (own_keep HO.out hBr) hlt
      obtain ⟨r0, r1, r2, r3, r4, r5⟩ := flat_at2 (own_keep HO.out hBr) hlt
      obtain ⟨hk2, hgk⟩ := fin_get HF.out hlt
      have hst := HFE.out
      rw [firstE_drop hk2, hgk] at hst
      have hfk := (HFV.out _ (List.getElem_mem hlt)).keep hBr
      obtain ⟨f, hfe⟩ : ∃ f, F[k] = f := ⟨_, rfl⟩
      rw [hfe] at p0 p1 p2 p3 p4 p5 r0 r1 r2 r3 r4 r5 hst hfk
      obtain ⟨s, lv, rv, av, bv'⟩ := f
      have HFK := Lib.hid hfk
      obtain ⟨E, hE⟩ : ∃ E, staE s lv = E := ⟨_, rfl⟩
      simp only at p0 p1 p2 p3 p4 p5 r0 r1 r2 r3 r4 r5 hst
      rw [hE] at hst
      have HE := Lib.hid hE
      have i0 : (0 : Int) ≤ (k : Int) := by omega
      have i1 : (k : Int) < (F.length : Int) := by omega
      clear hE hfk hfe hgk HFE
      by_cases he : E = 0
      · rw [if_neg (by simp [he])] at hst
        have HN := Lib.hid hst
        subst he
        clear hst
        go_wp2_with (go_at_call 28; refine (rsta_of s lv rv av bv' 0 _ HFK HE).mono ?_; rintro e w3 ⟨rfl, hb3⟩)
        go_roundw
        case rel => exact ⟨k + 1, by omega, by go_num, HN.out, below_keep hb3 hBr⟩
        case measure => simp [intOf]; omega
      · rw [if_pos he] at hst
        subst hst
        have b1 : (E != 0) = true := by simp [he]
        clear he
        go_wp2_with (go_at_call 28; refine (rsta_of s lv rv av bv' E _ HFK HE).mono ?_; rintro e w3 ⟨rfl, hb3⟩)
        go_ret
        exact ⟨rfl, below_keep hb3 (below_keep hBr hB2)⟩
    · obtain rfl : k = F.length := by omega
      have HN : Hid (R = 0) := Lib.hid (by
        have := HFE.out
        rw [← HF.out, List.drop_of_length_le (by rw [List.length_map]; exact Nat.le_refl _)] at this
        exact this.symm)
      obtain rfl := HN.out
      go_wp2
      go_ret
      exact ⟨rfl, below_keep hBr hB2⟩
theorem rcount_of (v : Value) (T : Tr) (w : World) (hT : Hid (TrV w v T)) (hc : cnt T.body ≤ 600) :
    Calls Try.prog 15 #[v] w fun e w' => e = .returned (.int .i64 (cnt T.body : Int)) ∧ Below w.heap.size w w' := by
  obtain ⟨bv, rfl, hnl, hs⟩ := hT.out
  have hB := al1 w (.cells #[.string (bb T.name), .bool T.dir, bv] 24)
  have HS1 := Lib.hid (hs.keep hB)
  clear hT hs hnl
  go_enter Try.func15, Try.ntmps15
  go_wp2_with fail
  refine (pre_ok T.body _ _ bv 0 (Below.refl _ _) HS1.out hc (by decide) (by omega)).mono ?_
  rintro e w2 ⟨g, oc, F, rfl, _, hF, _, hb2⟩
  have hFl := Lib.hid (fin_len hF)
  clear hF
  go_wp2
  go_ret
  exact ⟨ret_int (by rw [hFl.out]), below_keep hb2 hB⟩
end Go.Proofs.Ytmpjdlhigmofdaa.tre
