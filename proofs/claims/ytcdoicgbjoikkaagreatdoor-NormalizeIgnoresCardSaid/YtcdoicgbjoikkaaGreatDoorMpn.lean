/-
  What sets of the statements of layer 12 returns: the statements that set options, in order, behind those that it is given. Condition: at most 600 statements in memory.
  What a built graph is like: its names, in order; without an error it is valid, with one it is empty. No condition.
  Plainly: without the statements that set options a tree has the same graph, and with those alone the same options. No condition.
  What the walk of NormalizeIgnores needs: bare trees are small, a graph's box is none of its rows, the row of a set tree. No condition.
  The walk of the statement NormalizeIgnores of layer 12. Condition: the library's variable MaxLen holds a number.
-/
import Derived.Test.YtcdoicgbjoikkaaGreatDoorMpm
import Derived.Test.YtcdoicgbjoikkaaGreatDoorMpb
import Derived.Test.YtcdoicgbjoikkaaGreatDoorNorLo
import Derived.Test.YtcdoicgbjoikkaaGreatDoorMgf
namespace Go.Proofs.YtcdoicgbjoikkaaGreatDoor.nor
open Go.RowKit lex tre att

mutual
def setsS : St → List St
  | .mk k n r a b => (if k = 4 then [.mk k n r a b] else []) ++ setsL b
def setsL : List St → List St
  | [] => []
  | s :: t => setsS s ++ setsL t
end
theorem setsS_eq (s : St) : setsS s = (if s.kind = 4 then [s] else []) ++ setsL s.body := by cases s; rw [setsS]; rfl
theorem setsL_app : ∀ a b : List St, setsL (a ++ b) = setsL a ++ setsL b
  | [], b => by rw [setsL]; rfl
  | x :: t, b => by rw [List.cons_append, setsL, setsL, setsL_app t b, List.append_assoc]
theorem setsL_take {l : List St} {k : Nat} (h : k < l.length) : setsL (l.take (k + 1)) = setsL (l.take k) ++ setsS l[k] := by
  rw [List.take_succ_eq_append_getElem h, setsL_app]
  congr 1
  rw [setsL, setsL, List.append_nil]
theorem sets_pre : (∀ s : St, ∀ lv : Int, setsS s = ((preS s lv).map (·.1)).filter (fun x => decide (x.kind = 4))) ∧ ∀ l : List St, ∀ lv : Int, setsL l = ((preL l lv).map (·.1)).filter (fun x => decide (x.kind = 4)) := by
  refine st_ind (fun k n r a b hb lv => ?_) (fun lv => ?_) (fun x t hx ht lv => ?_)
  · rw [setsS, preS_eq, List.map_cons, List.filter_cons, hb (if (St.mk k n r a b).kind = 5 then lv + 1 else lv)]
    by_cases h : k = 4
    · have e : decide ((St.mk k n r a b).kind = 4) = true := decide_eq_true h
      rw [if_pos h, if_pos e]; rfl
    · have e : ¬ decide ((St.mk k n r a b).kind = 4) = true := by rw [decide_eq_true_eq]; exact h
      rw [if_neg h, if_neg e]; rfl
  · rw [setsL, preL_nil]; rfl
  · rw [setsL, preL_cons, List.map_append, List.filter_append, hx lv, ht lv]
theorem setsL_len (l : List St) : (setsL l).length ≤ cnt l := by
  rw [sets_pre.2 l 0]
  unfold cnt
  exact Nat.le_trans (List.length_filter_le _ _) (by rw [List.length_map]; exact Nat.le_refl _)
/-- A statement that lies in old memory. -/
def svW (w0 : World) (x : Sv) : Prop := ∀ W, Below w0.heap.size w0 W → svOk W x
theorem svW.el {w0 w : World} {B : Nat} {ob : Option Nat} {x : Sv} (h : svW w0 x) (hB : B ≤ w.heap.size) : elB w0 B w ob x := ⟨B, B, Nat.le_refl _, hB, fun q _ e => by omega, fun W hW0 _ => h W hW0⟩
def SeOut (L : List St) (w0 : World) (B : Nat) (w : World) (e : Ending) (w' : World) : Prop := ∃ (v' : Value) (D : List Sv), e = .returned v' ∧ w'.ownsRow B 56 5 v' D.length (D.flatMap svC) ∧ D.map Sv.s = L ∧ (∀ x ∈ D, svW w0 x) ∧ Below B w w'
def SeOk (l : List St) : Prop := ∀ (w0 w : World) (B : Nat) (v ov : Value) (C : List Sv), Hid (Below w0.heap.size w0 w) → Hid (Sts w0 v l) → w0.heap.size ≤ B → B ≤ w.heap.size → Hid (w.ownsRow B 56 5 ov C.length (C.flatMap svC)) → Hid (∀ x ∈ C, svW w0 x) → C.length + cnt l ≤ 600 →
  Calls Tryz.prog 22 #[ov, v] w (SeOut (C.map Sv.s ++ setsL l) w0 B w)
set_option maxRecDepth 100000 in
set_option maxHeartbeats 600000 in
theorem sets_step (l : List St) (ih : ∀ s ∈ l, SeOk s.body) : SeOk l := by
  intro w0 w B v ov C HB HS hB0 hBw HR HC hn
  have hlm0 : l.length ≤ 600 := by have := len_cnt l; omega
  have IH := Lib.hid ih
  obtain ⟨ao, cap, rfl, -, -, -⟩ := id HS.out
  obtain ⟨oo, oc, rfl, -, -⟩ := own_form HR.out
  have hz0 := HB.out.size
  have hlm : l.length ≤ 9223372036854775807 := by omega
  clear ih
  go_enter Tryz.func22, Tryz.ntmps22
  go_wp2_with fail
  go_loopw [0, 5] (fun uv iv wr => ∃ (k : Nat) (D : List Sv), iv = .int .i64 k ∧ k ≤ l.length ∧ wr.ownsRow B 56 5 uv D.length (D.flatMap svC) ∧ D.map Sv.s = C.map Sv.s ++ setsL (l.take k) ∧ (∀ x ∈ D, svW w0 x) ∧ Below B w wr) (fun _ iv _ => l.length - (intOf iv).toNat)
  case atStart => exact ⟨0, C, rfl, Nat.zero_le _, HR.out, by rw [List.take_zero, setsL, List.append_nil], HC.out, Below.refl _ _⟩
  case round =>
    obtain ⟨k, D, rfl, hk, how, hDm, hD, hBr⟩ := hrel
    rename World => wr
    obtain ⟨po, pc, rfl, -, -⟩ := own_form how
    have HOw := Lib.hid how
    have HDm := Lib.hid hDm
    have HD := Lib.hid hD
    have hsz := hBr.size
    have HBr := Lib.hid hBr
    have HBw := Lib.hid (HB.out.trans (hBr.mono hB0))
    have hDl : D.length = C.length + (setsL (l.take k)).length := by
      have h1 := congrArg List.length hDm
      rw [List.length_map, List.length_append, List.length_map] at h1
      exact h1
    have hDl2 := setsL_len (l.take k)
    have hDl3 : D.length ≤ C.length + cnt (l.take k) := by omega
    clear how hDm hD hBr hDl hDl2
    by_cases hlt : k < l.length
    case neg =>
      obtain rfl : k = l.length := by omega
      have HE : Hid (D.map Sv.s = C.map Sv.s ++ setsL l) := Lib.hid (by rw [HDm.out, List.take_length])
      go_wp2
      go_ret
      exact ⟨_, D, rfl, HOw.out, HE.out, HD.out, HBr.out⟩
    obtain ⟨A, rfl, hst⟩ := HS.out.get hlt
    have hbt := setsL_take hlt
    rw [setsS_eq] at hbt
    have hcnt := cnt_take hlt
    have HIH := Lib.hid (IH.out _ (List.getElem_mem hlt))
    obtain ⟨s, hs⟩ : ∃ s, l[k] = s := ⟨_, rfl⟩
    rw [hs] at hst hbt hcnt HIH
    obtain ⟨p0, p1, hnm, ⟨rv, p2, hrv⟩, ⟨av, p3, hav⟩, bv, p4, hbv⟩ := (stAt_eq _ _ _).1 hst
    have HSV : Hid (svW w0 ⟨s, rv, av, bv⟩) := Lib.hid (fun W hW => ⟨hnm, hrv.keep hW, hav.keep hW, hbv.keep hW⟩)
    have HBV := Lib.hid hbv
    obtain ⟨ro, rc, rfl, -, -, -⟩ := hrv
    obtain ⟨so, sc, rfl, -, -, -⟩ := hav
    obtain ⟨bo, bc, rfl, -, -, -⟩ := hbv
    have P4 := Lib.hid p4
    have p0 := cell_later' HBw.out p0
    have p1 := cell_later' HBw.out p1
    have p2 := cell_later' HBw.out p2
    have p3 := cell_later' HBw.out p3
    have p4 := cell_later' HBw.out p4
    have i0 : (0 : Int) ≤ (k : Int) := by omega
    have i1 : (k : Int) < (l.length : Int) := by omega
    have hcn := hcnt.1
    have hcm := hcnt.2
    clear hst hs hnm hcnt
    by_cases h4 : s.kind = 4
    · have z4 : (s.kind == 4) = true := by rw [beq_iff_eq]; exact h4
      rw [if_pos h4] at hbt
      have HBT := Lib.hid hbt
      have HEL : Hid (∀ x ∈ D, elB w0 B wr (Value.slice po D.length pc).ownBlock x) := Lib.hid (fun x hx => (HD.out x hx).el (by omega))
      have HXL : Hid (elB w0 B wr (Value.slice po D.length pc).ownBlock ⟨s, .slice ro s.refs.length rc, .slice so s.attrs.length sc, .slice bo s.body.length bc⟩) := Lib.hid (HSV.out.el (by omega))
      clear hbt h4
      go_wp2_with (at_builtin; refine app_sv rfl (.tmp 18) (.tmp 23) rfl w0 B _ D ⟨s, .slice ro s.refs.length rc, .slice so s.attrs.length sc, .slice bo s.body.length bc⟩ wr.heap.size rfl rfl rfl HOw HEL HXL (by omega) (by omega) rfl rfl rfl ?_; intro v9 w9 own9 el9 grow9; have hB9 := HBr.out.grown grow9 (by omega) (fun q hq => (World.ownsRow.lt HOw.out q hq).1); have d4 := cell_later' (HB.out.trans (hB9.mono hB0)) P4.out; have HB9 := Lib.hid hB9; have HO9 := Lib.hid own9; clear own9 el9 grow9 hB9)
      clear p0 p1 p2 p3 p4
      have hl9 : (D ++ [(⟨s, .slice ro s.refs.length rc, .slice so s.attrs.length sc, .slice bo s.body.length bc⟩ : Sv)]).length + cnt s.body ≤ 600 := by rw [List.length_append, List.length_singleton]; omega
      refine (HIH.out w0 w9 B _ v9 (D ++ [⟨s, .slice ro s.refs.length rc, .slice so s.attrs.length sc, .slice bo s.body.length bc⟩]) (Lib.hid (HB.out.trans (HB9.out.mono hB0))) HBV hB0 (Nat.le_trans hBw HB9.out.size) HO9 (Lib.hid (fun x hx => by
        rcases List.mem_append.1 hx with hx | hx
        · exact HD.out x hx
        · obtain rfl := List.mem_singleton.1 hx
          exact HSV.out)) hl9).mono ?_
      rintro e w7 ⟨v7, D7, rfl, own7, hm7, hd7, hb7⟩
      have HB7 := Lib.hid (HB9.out.trans hb7)
      have HO7 := Lib.hid own7
      have HM7 : Hid (D7.map Sv.s = C.map Sv.s ++ setsL (l.take (k + 1))) := Lib.hid (by rw [hm7, List.map_append, HDm.out, HBT.out]; simp)
      have HD7 := Lib.hid hd7
      clear own7 hm7 hd7 hb7 hl9 d4
      go_wp2
      go_roundw
      case rel => exact ⟨k + 1, D7, by go_num, by omega, HO7.out, HM7.out, HD7.out, HB7.out⟩
      case measure => simp [intOf]; omega
    · have z4 : (s.kind == 4) = false := by rw [beq_eq_false_iff_ne]; exact h4
      rw [if_neg h4, List.nil_append] at hbt
      have HBT := Lib.hid hbt
      clear hbt h4
      go_wp2_with fail
      clear p0 p1 p2 p3 p4
      refine (HIH.out w0 wr B _ _ D HBw HBV hB0 (by omega) HOw HD (by omega)).mono ?_
      rintro e w7 ⟨v7, D7, rfl, own7, hm7, hd7, hb7⟩
      have HB7 := Lib.hid (HBr.out.trans hb7)
      have HO7 := Lib.hid own7
      have HM7 : Hid (D7.map Sv.s = C.map Sv.s ++ setsL (l.take (k + 1))) := Lib.hid (by rw [hm7, HDm.out, HBT.out, List.append_assoc])
      have HD7 := Lib.hid hd7
      clear own7 hm7 hd7 hb7
      go_wp2
      go_roundw
      case rel => exact ⟨k + 1, D7, by go_num, by omega, HO7.out, HM7.out, HD7.out, HB7.out⟩
      case measure => simp [intOf]; omega
theorem sets_ok (l : List St) : SeOk l := lst_ind sets_step l
end Go.Proofs.YtcdoicgbjoikkaaGreatDoor.nor
namespace Go.Proofs.YtcdoicgbjoikkaaGreatDoor.nor
open Go.RowKit lex tre att

end Go.Proofs.YtcdoicgbjoikkaaGreatDoor.nor
namespace Go.Proofs.YtcdoicgbjoikkaaGreatDoor.nor
open Go.RowKit lex tre att

theorem fld_body {s : St} (h : fldE s = 0) (hk : s.kind ≠ 5) : s.body = [] := by
  unfold fldE at h
  by_cases c1 : s.kind < 1 ∨ 5 < s.kind
  · rw [if_pos c1] at h; exact absurd h (by decide)
  rw [if_neg c1] at h
  by_cases c2 : (s.kind = 2 ∧ s.name ≠ []) ∨ (s.kind ≠ 2 ∧ 0 < s.refs.length) ∨ (s.kind = 5 ∧ 0 < s.attrs.length) ∨ (s.kind ≠ 5 ∧ 0 < s.body.length)
  · rw [if_pos c2] at h; exact absurd h (by decide)
  · refine List.eq_nil_of_length_eq_zero ?_
    by_cases q : 0 < s.body.length
    · exact absurd (Or.inr (Or.inr (Or.inr ⟨hk, q⟩))) c2
    · omega
theorem fld_bare {s : St} {b' : List St} (h : fldE s = 0) (hb : b'.length ≤ s.body.length) : fldE (.mk s.kind s.name s.refs s.attrs b') = 0 := by
  obtain ⟨k, n, r, a, b⟩ := s
  have hb' : b'.length ≤ b.length := hb
  have e : (k ≠ 5 ∧ 0 < b'.length) = (k ≠ 5 ∧ 0 < b.length) ∨ (k ≠ 5 ∧ 0 < b.length) := by
    by_cases q : k ≠ 5 ∧ 0 < b.length
    · exact Or.inr q
    · refine Or.inl (propext ⟨fun x => absurd ⟨x.1, by omega⟩ q, fun x => absurd x q⟩)
  rcases e with e | e
  · unfold fldE at h ⊢
    have h' : (if k < 1 ∨ 5 < k then (1 : Int) else if (k = 2 ∧ n ≠ []) ∨ (k ≠ 2 ∧ 0 < r.length) ∨ (k = 5 ∧ 0 < a.length) ∨ (k ≠ 5 ∧ 0 < b.length) then 1 else if (k = 3 ∧ n ≠ wNode ∧ n ≠ wEdge) ∨ (k = 2 ∧ r.length < 2) then 1 else if k = 4 ∧ (a.length ≠ 1 ∨ (a.head?.map (·.1)) ≠ some []) then 1 else 0) = 0 := h
    show (if k < 1 ∨ 5 < k then (1 : Int) else if (k = 2 ∧ n ≠ []) ∨ (k ≠ 2 ∧ 0 < r.length) ∨ (k = 5 ∧ 0 < a.length) ∨ (k ≠ 5 ∧ 0 < b'.length) then 1 else if (k = 3 ∧ n ≠ wNode ∧ n ≠ wEdge) ∨ (k = 2 ∧ r.length < 2) then 1 else if k = 4 ∧ (a.length ≠ 1 ∨ (a.head?.map (·.1)) ≠ some []) then 1 else 0) = 0
    simp only [e]; exact h'
  · have q : b = [] := fld_body h e.1
    rw [q] at e
    exact absurd e.2 (by simp)
theorem sta_bare {s : St} {b' : List St} {lv : Int} (h : staE s lv = 0) (hb : b'.length ≤ s.body.length) : staE (.mk s.kind s.name s.refs s.attrs b') lv = 0 := by
  unfold staE at h ⊢
  by_cases f : fldE s = 0
  case neg => rw [if_pos f] at h; exact absurd h f
  rw [if_neg (by simpa using f)] at h
  rw [if_neg (by simpa using fld_bare f hb)]
  exact h
theorem sta_fld {s : St} {lv : Int} (h : staE s lv = 0) : fldE s = 0 := by
  unfold staE at h
  by_cases f : fldE s = 0
  · exact f
  · rw [if_pos f] at h; exact absurd h f
theorem bare_pre : (∀ s : St, ∀ lv : Int, (∀ y ∈ preS s lv, staE y.1 y.2 = 0) → (∀ y ∈ preL (bareS s) lv, staE y.1 y.2 = 0) ∧ (preL (bareS s) lv).length ≤ (preS s lv).length) ∧
    ∀ l : List St, ∀ lv : Int, (∀ y ∈ preL l lv, staE y.1 y.2 = 0) → (∀ y ∈ preL (bareL l) lv, staE y.1 y.2 = 0) ∧ (preL (bareL l) lv).length ≤ (preL l lv).length := by
  refine st_ind (fun k n r a b hb lv h => ?_) (fun lv _ => ?_) (fun x t hx ht lv h => ?_)
  · rw [bareS_eq]
    by_cases h4 : (St.mk k n r a b).kind = 4
    · rw [if_pos h4]; exact ⟨fun y hy => absurd hy (by rw [preL_nil]; exact List.not_mem_nil), Nat.zero_le _⟩
    · rw [if_neg h4, preL_cons, preL_nil, List.append_nil, preS_eq, preS_eq]
      rw [preS_eq] at h
      obtain ⟨q1, q2⟩ := hb (if (St.mk k n r a b).kind = 5 then lv + 1 else lv) (fun y hy => h y (List.mem_cons_of_mem _ hy))
      refine ⟨fun y hy => ?_, by rw [List.length_cons, List.length_cons]; exact Nat.succ_le_succ q2⟩
      rcases List.mem_cons.1 hy with rfl | hy
      · exact sta_bare (h _ List.mem_cons_self) (bareL_len _)
      · exact q1 y hy
  · rw [bareL]; exact ⟨fun y hy => absurd hy (by rw [preL_nil]; exact List.not_mem_nil), Nat.le_refl _⟩
  · rw [preL_cons] at h
    obtain ⟨a1, a2⟩ := hx lv (fun y hy => h y (List.mem_append_left _ hy))
    obtain ⟨b1, b2⟩ := ht lv (fun y hy => h y (List.mem_append_right _ hy))
    rw [bareL, preL_app, preL_cons]
    refine ⟨fun y hy => ?_, by rw [List.length_append, List.length_append]; omega⟩
    rcases List.mem_append.1 hy with hy | hy
    · exact a1 y hy
    · exact b1 y hy
theorem blk_e0 {l : List St} {p : Pl} {s : Sta} (h : (blkS l p s).e = 0) : s.e = 0 := by
  cases l with
  | nil => rw [blkS_nil] at h; exact h
  | cons x t =>
    rw [blkS_cons] at h
    by_cases q : s.e = 0
    · exact q
    · rw [if_pos q] at h; exact h
theorem blkS_step {x : St} {t : List St} {p : Pl} {s : Sta} (h : (blkS (x :: t) p s).e = 0) : s.e = 0 ∧ stE x.kind x.name x.attrs = 0 ∧ blkS (x :: t) p s = blkS t (dflt x.kind x.name x.attrs p) (stmS x p s) := by
  have h0 := blk_e0 h
  rw [blkS_cons] at h ⊢
  rw [if_neg (by simpa using h0)] at h ⊢
  by_cases q : stE x.kind x.name x.attrs = 0
  · rw [if_neg (by simpa using q)]; exact ⟨h0, q, rfl⟩
  · rw [if_pos q] at h; exact absurd h q
theorem stmS_no {k : Int} (n : Nm) (r a : List Pr) (b : List St) (p : Pl) (s : Sta) (h1 : k ≠ 1) (h2 : k ≠ 2) (h5 : k ≠ 5) : stmS (.mk k n r a b) p s = s := by
  rw [stmS, if_neg h1, if_neg h2, if_neg h5]
theorem blk_bare : (∀ x : St, ∀ (p : Pl) (s : Sta), (stmS x p s).e = 0 → stmS (.mk x.kind x.name x.refs x.attrs (bareL x.body)) p s = stmS x p s) ∧ ∀ l : List St, ∀ (p : Pl) (s : Sta), (blkS l p s).e = 0 → blkS (bareL l) p s = blkS l p s := by
  refine st_ind (fun k n r a b hb p s h => ?_) (fun p s _ => by rw [bareL]) (fun x t hx ht p s h => ?_)
  · show stmS (.mk k n r a (bareL b)) p s = stmS (.mk k n r a b) p s
    by_cases h1 : k = 1
    · subst h1; rw [stmS_1, stmS_1]
    by_cases h2 : k = 2
    · subst h2; rw [stmS_2, stmS_2]
    by_cases h5 : k = 5
    · subst h5
      rw [stmS_5] at h
      rw [stmS_5, stmS_5]
      by_cases hc : clusd s.cs n = true ∨ 0 ≤ nodeI s.ns n 0
      · rw [if_pos hc, if_pos hc]
      · rw [if_neg hc] at h
        rw [if_neg hc, if_neg hc]
        exact hb _ _ h
    · rw [stmS_no n r a _ p s h1 h2 h5, stmS_no n r a _ p s h1 h2 h5]
  · obtain ⟨h0, hst, e⟩ := blkS_step h
    rw [e] at h
    rw [e, bareL, bareS_eq]
    by_cases h4 : x.kind = 4
    · rw [if_pos h4, List.nil_append]
      have e1 : stmS x p s = s := by rw [stmS_eq, if_neg (by omega), if_neg (by omega), if_neg (by omega)]
      have e2 : dflt x.kind x.name x.attrs p = p := by unfold dflt; rw [if_neg (by omega)]
      rw [e1, e2] at h ⊢
      exact ht p s h
    · rw [if_neg h4, List.singleton_append, blkS_cons, if_neg (by simpa using h0)]
      show (if stE x.kind x.name x.attrs ≠ 0 then _ else _) = _
      rw [if_neg (by simpa using hst)]
      show blkS (bareL t) (dflt x.kind x.name x.attrs p) _ = _
      rw [hx p s (blk_e0 h)]
      exact ht _ _ h
theorem buildT_ok {T : Tr} {G : gra.Gr} (h : buildT T = (G, 0)) : validT T = 0 ∧ (blkS T.body pl0 st0).e = 0 := by
  unfold buildT at h
  by_cases v : validT T = 0
  case neg => rw [if_pos v] at h; exact absurd (Prod.mk.inj h).2 v
  rw [if_neg (by simpa using v)] at h
  by_cases e : (blkS T.body pl0 st0).e = 0
  · exact ⟨v, e⟩
  · rw [if_pos e] at h; exact absurd (Prod.mk.inj h).2 e
theorem build_bare {T : Tr} {G : gra.Gr} (h : buildC T = (G, 0)) : buildC ⟨T.name, T.dir, bareL T.body⟩ = (G, 0) := by
  rw [build_eq] at h ⊢
  obtain ⟨v, e⟩ := buildT_ok h
  obtain ⟨v1, v2, v3⟩ := (valid_iff T).1 v
  obtain ⟨b1, b2⟩ := bare_pre.2 T.body 0 v3
  have v' : validT ⟨T.name, T.dir, bareL T.body⟩ = 0 := (valid_iff _).2 ⟨v1, Nat.le_trans b2 v2, b1⟩
  have eb := blk_bare.2 T.body pl0 st0 e
  unfold buildT at h ⊢
  rw [v'] 
  rw [v] at h
  simp only [eb]
  exact h
theorem firC_app (k : Int) : ∀ a b : List Pr, firC k a = 0 → firC k b = 0 → firC k (a ++ b) = 0
  | [], b, _, h => h
  | x :: t, b, h1, h2 => by
    unfold firC at h1
    rw [List.cons_append]
    unfold firC
    by_cases q : checkL k x = 0
    · rw [if_neg (by simpa using q)] at h1 ⊢; exact firC_app k t b h1 h2
    · rw [if_pos q] at h1; exact absurd h1 q
theorem blk_sets : (∀ x : St, ∀ (p : Pl) (s : Sta) (lv : Int), (stmS x p s).e = 0 → stE x.kind x.name x.attrs = 0 → (∀ y ∈ preS x lv, staE y.1 y.2 = 0) → firC 4 (setL (preS x lv)) = 0) ∧
    ∀ l : List St, ∀ (p : Pl) (s : Sta) (lv : Int), (blkS l p s).e = 0 → (∀ y ∈ preL l lv, staE y.1 y.2 = 0) → firC 4 (setL (preL l lv)) = 0 := by
  refine st_ind (fun k n r a b hb p s lv h hs hv => ?_) (fun p s lv _ _ => rfl) (fun x t hx ht p s lv h hv => ?_)
  · rw [preS_eq] at hv ⊢
    have hs0 := hv _ List.mem_cons_self
    have e : setL ((St.mk k n r a b, lv) :: preL (St.mk k n r a b).body (if (St.mk k n r a b).kind = 5 then lv + 1 else lv)) = (if k = 4 then [keyL n a] else []) ++ setL (preL b (if (St.mk k n r a b).kind = 5 then lv + 1 else lv)) := rfl
    rw [e]
    refine firC_app 4 _ _ ?_ ?_
    · by_cases h4 : k = 4
      · rw [if_pos h4]
        have hs' : stE k n a = 0 := hs
        unfold stE at hs'
        rw [if_pos h4] at hs'; exact hs'
      · rw [if_neg h4]; rfl
    · by_cases h5 : k = 5
      · subst h5
        rw [stmS_5] at h
        by_cases hc : clusd s.cs n = true ∨ 0 ≤ nodeI s.ns n 0
        · rw [if_pos hc] at h; exact absurd h (by simp)
        · rw [if_neg hc] at h
          exact hb _ _ _ h (fun y hy => hv y (List.mem_cons_of_mem _ hy))
      · have : b = [] := fld_body (sta_fld hs0) h5
        subst this
        rfl
  · obtain ⟨h0, hst, e⟩ := blkS_step h
    rw [e] at h
    rw [preL_cons] at hv
    rw [preL_cons, setL_app]
    exact firC_app 4 _ _ (hx p s lv (blk_e0 h) hst (fun y hy => hv y (List.mem_append_left _ hy))) (ht _ _ lv h (fun y hy => hv y (List.mem_append_right _ hy)))
theorem opts_built {T : Tr} {G : gra.Gr} (h : buildC T = (G, 0)) : ∃ o, optsT T = (o, 0) ∧ validT T = 0 ∧ firC 4 (setL (preL T.body 0)) = 0 ∧ o = optsOf ((setL (preL T.body 0)).foldl (fun own a => mergeL own [a]) []) := by
  rw [build_eq] at h
  obtain ⟨v, e⟩ := buildT_ok h
  have f := blk_sets.2 T.body pl0 st0 0 e ((valid_iff T).1 v).2.2
  refine ⟨_, ?_, v, f, rfl⟩
  unfold optsT
  rw [if_neg (by simpa using v), if_neg (by simpa using f)]
theorem setL_filter : ∀ P : List (St × Int), setL P = ((P.map (·.1)).filter (fun x => decide (x.kind = 4))).map (fun s => keyL s.name s.attrs)
  | [] => rfl
  | x :: t => by
    have e : setL (x :: t) = (if x.1.kind = 4 then [keyL x.1.name x.1.attrs] else []) ++ setL t := rfl
    rw [e, setL_filter t, List.map_cons, List.filter_cons]
    by_cases h : x.1.kind = 4
    · rw [if_pos h, if_pos (decide_eq_true h)]; rfl
    · rw [if_neg h, if_neg (by simpa using h)]; rfl
theorem pre_flat : ∀ L : List St, (∀ s ∈ L, s.body = []) → preL L 0 = L.map (fun s => (s, (0 : Int)))
  | [], _ => rfl
  | s :: t, h => by
    rw [preL_cons, preS_eq, h s List.mem_cons_self, preL_nil, pre_flat t (fun x hx => h x (List.mem_cons_of_mem _ hx))]; rfl
theorem sta_lv {s : St} {lv lv' : Int} (h : staE s lv = 0) (hk : s.kind ≠ 5) : staE s lv' = 0 := by
  unfold staE at h ⊢
  rw [if_neg (fun q => hk q.1 : ¬ (s.kind = 5 ∧ 6 ≤ lv))] at h
  rw [if_neg (fun q => hk q.1 : ¬ (s.kind = 5 ∧ 6 ≤ lv'))]
  exact h
theorem opts_sets {T : Tr} {o : Op'} (v : validT T = 0) (ho : optsT T = (o, 0)) : optsT ⟨[104], false, setsL T.body⟩ = (o, 0) ∧ cnt (setsL T.body) ≤ 512 := by
  obtain ⟨v1, v2, v3⟩ := (valid_iff T).1 v
  have hset := sets_pre.2 T.body 0
  have hin : ∀ s ∈ setsL T.body, s.kind = 4 ∧ ∃ lv, staE s lv = 0 := by
    intro s hs
    rw [hset] at hs
    obtain ⟨h1, h2⟩ := List.mem_filter.1 hs
    obtain ⟨y, hy, rfl⟩ := List.mem_map.1 h1
    exact ⟨by simpa using h2, y.2, v3 y hy⟩
  have hbd : ∀ s ∈ setsL T.body, s.body = [] := fun s hs => by
    obtain ⟨h4, lv, h5⟩ := hin s hs
    exact fld_body (sta_fld h5) (by rw [h4]; decide)
  have hp := pre_flat _ hbd
  have hc : cnt (setsL T.body) ≤ 512 := by
    unfold cnt
    rw [hp, List.length_map]
    exact Nat.le_trans (setsL_len T.body) v2
  have v' : validT ⟨[104], false, setsL T.body⟩ = 0 := (valid_iff _).2 ⟨by show isNm [104] = true; decide, hc, fun x hx => by
    have hx' : x ∈ preL (setsL T.body) 0 := hx
    rw [hp] at hx'
    obtain ⟨s, hs, rfl⟩ := List.mem_map.1 hx'
    obtain ⟨h4, lv, h5⟩ := hin s hs
    exact sta_lv h5 (by rw [h4]; decide)⟩
  have e : setL (preL (setsL T.body) 0) = setL (preL T.body 0) := by
    rw [hp, setL_filter, setL_filter, ← hset, List.map_map]
    have e1 : (setsL T.body).map ((fun x : St × Int => x.1) ∘ fun s => (s, (0 : Int))) = setsL T.body := by
      conv => rhs; rw [← List.map_id (setsL T.body)]
      rfl
    rw [e1, List.filter_eq_self.2 (fun s hs => decide_eq_true (hin s hs).1)]
  refine ⟨?_, hc⟩
  unfold optsT at ho ⊢
  rw [v'] 
  rw [v] at ho
  simp only [e]
  exact ho
end Go.Proofs.YtcdoicgbjoikkaaGreatDoor.nor
namespace Go.Proofs.YtcdoicgbjoikkaaGreatDoor.nor
open Go.RowKit lex tre att

theorem bare_all (Q : List Pr → List Pr → Prop) : (∀ s : St, ∀ lv : Int, (∀ y ∈ preS s lv, Q y.1.refs y.1.attrs) → ∀ y ∈ preL (bareS s) lv, Q y.1.refs y.1.attrs) ∧ ∀ l : List St, ∀ lv : Int, (∀ y ∈ preL l lv, Q y.1.refs y.1.attrs) → ∀ y ∈ preL (bareL l) lv, Q y.1.refs y.1.attrs := by
  refine st_ind (fun k n r a b hb lv h => ?_) (fun lv _ => ?_) (fun x t hx ht lv h => ?_)
  · rw [bareS_eq]
    by_cases h4 : (St.mk k n r a b).kind = 4
    · rw [if_pos h4]; exact fun y hy => absurd hy (by rw [preL_nil]; exact List.not_mem_nil)
    · rw [if_neg h4, preL_cons, preL_nil, List.append_nil, preS_eq]
      rw [preS_eq] at h
      intro y hy
      rcases List.mem_cons.1 hy with rfl | hy
      · exact h (.mk k n r a b, lv) List.mem_cons_self
      · exact hb _ (fun z hz => h z (List.mem_cons_of_mem _ hz)) y hy
  · rw [bareL]; exact fun y hy => absurd hy (by rw [preL_nil]; exact List.not_mem_nil)
  · rw [preL_cons] at h
    rw [bareL, preL_app]
    intro y hy
    rcases List.mem_append.1 hy with hy | hy
    · exact hx lv (fun z hz => h z (List.mem_append_left _ hz)) y hy
    · exact ht lv (fun z hz => h z (List.mem_append_right _ hz)) y hy
theorem okL_bare {l : List St} (h : okL l) : okL (bareL l) := (bare_all (fun r a => r.length ≤ 40 ∧ a.length ≤ 40)).2 l 0 h
/-- A graph's box. -/
def gbk (W : World) (B : Nat) : Prop := ∃ (s : ByteArray) (b : Bool) (o1 o2 o3 : Option Addr) (n1 c1 n2 c2 n3 c3 : Nat), blk W B 31 #[.string s, .bool b, .slice o1 n1 c1, .slice o2 n2 c2, .slice o3 n3 c3]
theorem gbk_int {W : World} {B o : Nat} {n : Int} (h : gbk W B) (hc : W.cell? ⟨B, o, none⟩ = some (.int .i64 n)) : False := by
  obtain ⟨s, b, o1, o2, o3, n1, c1, n2, c2, n3, c3, h⟩ := h
  rw [blk_cell h] at hc
  match o, hc with
  | 0, hc => simp at hc
  | 1, hc => simp at hc
  | 2, hc => simp at hc
  | 3, hc => simp at hc
  | 4, hc => simp at hc
  | (k + 5), hc => simp at hc
theorem set_far {W : World} {A : Addr} {B o : Nat} {u : Value} (h : A.block ≠ B) : (W.setCell ⟨B, o, none⟩ u).cell? A = W.cell? A := by
  unfold World.cell?
  rw [Below.heap_setCell _ _ _ _ (show A.block ≠ B from h)]
theorem pt_far {W : World} {A : Addr} {r : gra.Pt} {B : Nat} (hB : gbk W B) (h : gra.ptAt W A r) : A.block ≠ B := by
  rintro rfl
  obtain ⟨h0, h1, -⟩ := h
  exact gbk_int hB h1
theorem nd_far {W : World} {A : Addr} {x : gra.Nd} {B : Nat} (hB : gbk W B) (h : gra.ndAt W A x) : A.block ≠ B := by
  rintro rfl
  obtain ⟨h0, h1, h2, -⟩ := h
  exact gbk_int hB h2
theorem ed_far {W : World} {A : Addr} {x : gra.Ed} {B : Nat} (hB : gbk W B) (h : gra.edAt W A x) : A.block ≠ B := by
  rintro rfl
  obtain ⟨h0, h1, -⟩ := h
  exact gbk_int hB h1
theorem rw_map {α : Type} {c : Nat} {P : World → Addr → α → Prop} {W W' : World} (hP : ∀ A x, P W A x → P W' A x) {v : Value} {l : List α} (h : gra.Rw c P W v l) : gra.Rw c P W' v l := by
  obtain ⟨ao, cap, rfl, hc, hm, hA⟩ := h
  exact ⟨ao, cap, rfl, hc, hm, fun hn => by obtain ⟨A, rfl, h2⟩ := hA hn; exact ⟨A, rfl, fun i hi => hP _ _ (h2 i hi)⟩⟩
theorem grv_set {W : World} {B o : Nat} {u gv : Value} {G : gra.Gr} (hB : gbk W B) (h : gra.GrV W gv G) : gra.GrV (W.setCell ⟨B, o, none⟩ u) gv G := by
  obtain ⟨nv, ev, cv, rfl, hm, h1, h2, h3⟩ := h
  have hpt : ∀ A r, gra.ptAt W A r → gra.ptAt (W.setCell ⟨B, o, none⟩ u) A r := fun A r h => by
    have hf := pt_far hB h
    obtain ⟨q0, q1, q2⟩ := h
    exact ⟨by rw [set_far hf]; exact q0, by rw [set_far (A := ⟨A.block, A.off + 1, none⟩) hf]; exact q1, q2⟩
  refine ⟨nv, ev, cv, rfl, hm, rw_map (fun A x h => ?_) h1, rw_map (fun A x h => ?_) h2, rw_map hpt h3⟩
  · have hf := nd_far hB h
    obtain ⟨q0, q1, q2, q3, q4, ⟨pv, q5, q6⟩, q7⟩ := h
    exact ⟨by rw [set_far hf]; exact q0, by rw [set_far (A := ⟨A.block, A.off + 1, none⟩) hf]; exact q1, by rw [set_far (A := ⟨A.block, A.off + 2, none⟩) hf]; exact q2, by rw [set_far (A := ⟨A.block, A.off + 3, none⟩) hf]; exact q3, by rw [set_far (A := ⟨A.block, A.off + 4, none⟩) hf]; exact q4, ⟨pv, by rw [set_far (A := ⟨A.block, A.off + 5, none⟩) hf]; exact q5, rw_map hpt q6⟩, q7⟩
  · have hf := ed_far hB h
    obtain ⟨q0, q1, q2, q3, q4, q5, q6, q7⟩ := h
    exact ⟨by rw [set_far hf]; exact q0, by rw [set_far (A := ⟨A.block, A.off + 1, none⟩) hf]; exact q1, by rw [set_far (A := ⟨A.block, A.off + 2, none⟩) hf]; exact q2, by rw [set_far (A := ⟨A.block, A.off + 3, none⟩) hf]; exact q3, by rw [set_far (A := ⟨A.block, A.off + 4, none⟩) hf]; exact q4, by rw [set_far (A := ⟨A.block, A.off + 5, none⟩) hf]; exact q5, by rw [set_far (A := ⟨A.block, A.off + 6, none⟩) hf]; exact q6, q7⟩
/-- A graph stored into its box. -/
theorem box_store {W : World} {B : Nat} {nm : ByteArray} {d : Bool} {o1 o2 o3 : Option Addr} {n1 c1 n2 c2 n3 c3 : Nat} {gv : Value} {G : gra.Gr} (h : gbx W B) (hg : gra.GrV W gv G) :
    gra.GrV (((((W.setCell ⟨B, 0, none⟩ (.string nm)).setCell ⟨B, 1, none⟩ (.bool d)).setCell ⟨B, 2, none⟩ (.slice o1 n1 c1)).setCell ⟨B, 3, none⟩ (.slice o2 n2 c2)).setCell ⟨B, 4, none⟩ (.slice o3 n3 c3)) gv G ∧
    gra.gat (((((W.setCell ⟨B, 0, none⟩ (.string nm)).setCell ⟨B, 1, none⟩ (.bool d)).setCell ⟨B, 2, none⟩ (.slice o1 n1 c1)).setCell ⟨B, 3, none⟩ (.slice o2 n2 c2)).setCell ⟨B, 4, none⟩ (.slice o3 n3 c3)) B nm d (.slice o1 n1 c1) (.slice o2 n2 c2) (.slice o3 n3 c3) := by
  have h0 : blk (W.setCell ⟨B, 0, none⟩ (.string nm)) B 31 #[.string nm, .bool false, .slice none 0 0, .slice none 0 0, .slice none 0 0] := blk_set (o := 0) h (.string nm)
  have h1 : blk ((W.setCell ⟨B, 0, none⟩ (.string nm)).setCell ⟨B, 1, none⟩ (.bool d)) B 31 #[.string nm, .bool d, .slice none 0 0, .slice none 0 0, .slice none 0 0] := blk_set (o := 1) h0 (.bool d)
  have h2 : blk (((W.setCell ⟨B, 0, none⟩ (.string nm)).setCell ⟨B, 1, none⟩ (.bool d)).setCell ⟨B, 2, none⟩ (.slice o1 n1 c1)) B 31 #[.string nm, .bool d, .slice o1 n1 c1, .slice none 0 0, .slice none 0 0] := blk_set (o := 2) h1 (.slice o1 n1 c1)
  have h3 : blk ((((W.setCell ⟨B, 0, none⟩ (.string nm)).setCell ⟨B, 1, none⟩ (.bool d)).setCell ⟨B, 2, none⟩ (.slice o1 n1 c1)).setCell ⟨B, 3, none⟩ (.slice o2 n2 c2)) B 31 #[.string nm, .bool d, .slice o1 n1 c1, .slice o2 n2 c2, .slice none 0 0] := blk_set (o := 3) h2 (.slice o2 n2 c2)
  have h4 := gbx_set h (.string nm) (.bool d) (.slice o1 n1 c1) (.slice o2 n2 c2) (.slice o3 n3 c3)
  refine ⟨grv_set ⟨_, _, _, _, _, _, _, _, _, _, _, h3⟩ (grv_set ⟨_, _, _, _, _, _, _, _, _, _, _, h2⟩ (grv_set ⟨_, _, _, _, _, _, _, _, _, _, _, h1⟩ (grv_set ⟨_, _, _, _, _, _, _, _, _, _, _, h0⟩ (grv_set ⟨_, _, _, _, _, _, _, _, _, _, _, h⟩ hg)))), ?_, ?_, ?_, ?_, ?_⟩
  · rw [blk_cell h4]; rfl
  · rw [blk_cell h4]; rfl
  · rw [blk_cell h4]; rfl
  · rw [blk_cell h4]; rfl
  · rw [blk_cell h4]; rfl
/-- The row that sets makes, as statements. -/
theorem se_sts {w0 w : World} {B : Nat} {v : Value} {D : List Sv} (h : w.ownsRow B 56 5 v D.length (D.flatMap svC)) (hD : ∀ x ∈ D, svW w0 x) (hb : Below w0.heap.size w0 w) (hB : B ≤ w.heap.size) : Sts w v (D.map Sv.s) :=
  (row_selfB (w0 := w0) (ob := v.ownBlock) h (Nat.le_refl _) (fun x hx => (hD x hx).el hB)).sts hb
end Go.Proofs.YtcdoicgbjoikkaaGreatDoor.nor
namespace Go.Proofs.YtcdoicgbjoikkaaGreatDoor.nor
open Go.RowKit lex tre att

def IgCut (w4 : World) (G : gra.Gr) (s5 s6 : Value) (wx : World) : Prop := ∃ (B : Nat) (o1 o2 o3 : Option Addr) (n1 c1 n2 c2 n3 c3 : Nat), s5 = .pointer (some ⟨B, 0, none⟩) ∧ s6 = .int .i64 0 ∧ gra.gat wx B (bb G.nm) G.dir (.slice o1 n1 c1) (.slice o2 n2 c2) (.slice o3 n3 c3) ∧ gra.GrV wx (.agg #[.string (bb G.nm), .bool G.dir, .slice o1 n1 c1, .slice o2 n2 c2, .slice o3 n3 c3]) G ∧ Below w4.heap.size w4 wx
theorem s_far5 {w4 W : World} {b o : Nat} {v : Value} (h : Below w4.heap.size w4 W) (_ : b < w4.heap.size) (hc : w4.cell? ⟨b, o, none⟩ = some v) : W.cell? ⟨b, o, none⟩ = some v := cell_keep h hc
theorem at5_kept {w1 w2 : World} {b : Nat} {o : Op'} (h : at5 w1 b o) (hb : Below w1.heap.size w1 w2) : at5 w2 b o := ⟨cell_keep hb h.1, cell_keep hb h.2.1, cell_keep hb h.2.2.1, cell_keep hb h.2.2.2.1, cell_keep hb h.2.2.2.2⟩
set_option maxRecDepth 100000 in
set_option maxHeartbeats 4000000 in
theorem wignores (v : Value) (T : Tr) (w : World) (h : Hid (TrV w v T)) (hM : Hid (Mx w)) :
    Calls Tryz.prog 7 #[v] w fun e w' => e = .returned (.bool true) ∧ Below w.heap.size w w' := by
  obtain ⟨bv, rfl, hnm, hs⟩ := h.out
  obtain ⟨bo, bc, rfl, -, -, -⟩ := id hs
  obtain ⟨G, E, hGE⟩ : ∃ G E, buildC T = (G, E) := ⟨_, _, rfl⟩
  have HG := Lib.hid hGE
  obtain ⟨X, hX⟩ : ∃ X, bb T.name = X := ⟨_, rfl⟩
  have HX := Lib.hid hX
  have HNM := Lib.hid hnm
  have hb1 := al1 w (.cells #[.string X, .bool T.dir, .slice bo T.body.length bc] 24)
  have HT1 := Lib.hid (h.out.keep hb1)
  have HS1 := Lib.hid (hs.keep hb1)
  have HM1 := mx_keep hM hb1
  have HB1 := Lib.hid hb1
  have hsw1 : w.heap.size < (w.alloc (.cells #[.string X, .bool T.dir, .slice bo T.body.length bc] 24)).heap.size := by simp
  have hA := at3_new w X T.dir (.slice bo T.body.length bc) 24
  rw [hX] at HT1 ⊢
  clear hb1 hs hnm hGE hX h hM
  go_enter Tryz.func7, Tryz.ntmps7
  obtain ⟨a0, a1, a2⟩ := id hA
  have HA1 := Lib.hid hA
  clear hA
  go_wp2_with fail
  generalize w.alloc (.cells #[.string X, .bool T.dir, .slice bo T.body.length bc] 24) = w1 at *
  refine (few_of T.body w1 _ 9 0 (Nat.le_refl _) rfl HS1.out).mono ?_
  rintro e w2 ⟨b, rfl, hbq, rfl⟩
  cases b
  case false =>
    clear hbq
    go_wp2_with fail
    refine (awake_of _ HM1).mono ?_
    rintro e w3 ⟨rfl, hb3⟩
    have HBF := Lib.hid (below_keep hb3 HB1.out)
    clear hb3
    go_wp2
    go_ret
    exact ⟨rfl, HBF.out⟩
  obtain ⟨hcn, hok⟩ := hbq rfl
  have hc2 : cnt T.body ≤ 2000000000000 := by have := Nat.le_trans hcn few_bound; omega
  have HOK := Lib.hid hok
  clear hbq hcn hok
  go_wp2_with fail
  clear a0 a1 a2
  refine (build_of _ T G E w2 HM1 HT1 hc2 HOK HG).mono ?_
  rintro e w3 ⟨gv, rfl, hgv, hb3⟩
  obtain ⟨nv, ev, cv, rfl, hgl, hns, hes, hcs⟩ := id hgv
  obtain ⟨no, nc, rfl, -, -, -⟩ := id hns
  obtain ⟨eo, ec, rfl, -, -, -⟩ := id hes
  obtain ⟨co, cc, rfl, -, -, -⟩ := id hcs
  have hal := al1 w3 (.cells #[.string (bb G.nm), .bool G.dir, .slice no G.ns.length nc, .slice eo G.es.length ec, .slice co G.cs.length cc] 31)
  have hq := below_keep hal hb3
  have HB4 := Lib.hid (below_keep hq HB1.out)
  have hsw4 := Nat.lt_of_lt_of_le hsw1 hq.size
  have HT4 := Lib.hid (HT1.out.keep hq)
  have HS4 := Lib.hid (HS1.out.keep hq)
  have HM4 := mx_keep HM1 hq
  have HA4 := Lib.hid (at3_keep HA1.out hq)
  have HGV4 := Lib.hid (hgv.keep hal)
  have HGA4 := Lib.hid (gra.gat_new w3 (bb G.nm) G.dir (.slice no G.ns.length nc) (.slice eo G.es.length ec) (.slice co G.cs.length cc) 31)
  clear hgv hns hes hcs hb3 hal hq HB1 HT1 HM1 HA1 HS1 hgl
  by_cases hz : E = 0
  case neg =>
    have z0 : (E != 0) = true := by rw [bne_iff_ne]; exact hz
    clear hz
    go_wp2_with fail
    refine (awake_of _ HM4).mono ?_
    rintro e w6 ⟨rfl, hb6⟩
    have HBF := Lib.hid (below_keep hb6 HB4.out)
    clear hb6
    go_wp2
    go_ret
    exact ⟨rfl, HBF.out⟩
  subst hz
  obtain ⟨o, hopt, hvt, -, -⟩ := opts_built HG.out
  have HOP := Lib.hid hopt
  have HVT := Lib.hid hvt
  have hcn : cnt T.body ≤ 512 := ((valid_iff T).1 hvt).2.1
  clear hopt hvt
  obtain ⟨a0, a1, a2⟩ := HA4.out
  go_wp2_with fail
  generalize w3.alloc (.cells #[.string (bb G.nm), .bool G.dir, .slice no G.ns.length nc, .slice eo G.es.length ec, .slice co G.cs.length cc] 31) = w4 at *
  have hcn6 : cnt T.body ≤ 600 := by omega
  have hcb : cnt (bareL T.body) ≤ 2000000000000 := by have := (bare_pre.2 T.body 0 ((valid_iff T).1 HVT.out).2.2).2; unfold cnt at hcn ⊢; omega
  go_cut [5, 6] from 24 to 35 (fun s5 s6 wx => IgCut w4 G s5 s6 wx)
  case first =>
    refine wp_region_held_drew (S := (fun W : World => W.cell? ⟨w.heap.size, 0, none⟩ = some (.string X) ∧ W.cell? ⟨w.heap.size, 1, none⟩ = some (.bool T.dir) ∧ W.cell? ⟨w.heap.size, 2, none⟩ = some (.slice bo T.body.length bc))) (by kernel_rfl) (⟨s_drew a0, s_drew a1, s_drew a2⟩) (fun hHeld => ?_)
    refine take_on 0 25 (.pointer (some ⟨w.heap.size, 0, none⟩)) rfl (by kernel_rfl) (by kernel_rfl) (by kernel_rfl) (fun _ _ _ _ _ h => h) ?_ (by assumption) ?_
    · (rintro oi h; cases h; refine ⟨by rfl, ?_⟩; intro W hSw; (try dsimp only at hSw); obtain ⟨hs0, hs1, hs2⟩ := hSw
       go_simp)
    try simp only [List.setIfInBounds_toArray, List.set_cons_zero, List.set_cons_succ]
    refine take_on 1 26 (.string X) rfl (by kernel_rfl) (by kernel_rfl) (by kernel_rfl) (fun _ _ _ _ _ h => h) ?_ (by assumption) ?_
    · (rintro oi h; cases h; refine ⟨by rfl, ?_⟩; intro W hSw; (try dsimp only at hSw); obtain ⟨hs0, hs1, hs2⟩ := hSw
       go_simp)
    try simp only [List.setIfInBounds_toArray, List.set_cons_zero, List.set_cons_succ]
    refine take_on 2 27 (.pointer (some ⟨w.heap.size, 1, none⟩)) rfl (by kernel_rfl) (by kernel_rfl) (by kernel_rfl) (fun _ _ _ _ _ h => h) ?_ (by assumption) ?_
    · (rintro oi h; cases h; refine ⟨by rfl, ?_⟩; intro W hSw; (try dsimp only at hSw); obtain ⟨hs0, hs1, hs2⟩ := hSw
       go_simp)
    try simp only [List.setIfInBounds_toArray, List.set_cons_zero, List.set_cons_succ]
    refine take_on 3 28 (.bool T.dir) rfl (by kernel_rfl) (by kernel_rfl) (by kernel_rfl) (fun _ _ _ _ _ h => h) ?_ (by assumption) ?_
    · (rintro oi h; cases h; refine ⟨by rfl, ?_⟩; intro W hSw; (try dsimp only at hSw); obtain ⟨hs0, hs1, hs2⟩ := hSw
       go_simp)
    try simp only [List.setIfInBounds_toArray, List.set_cons_zero, List.set_cons_succ]
    refine take_on 4 29 (.pointer (some ⟨w.heap.size, 2, none⟩)) rfl (by kernel_rfl) (by kernel_rfl) (by kernel_rfl) (fun _ _ _ _ _ h => h) ?_ (by assumption) ?_
    · (rintro oi h; cases h; refine ⟨by rfl, ?_⟩; intro W hSw; (try dsimp only at hSw); obtain ⟨hs0, hs1, hs2⟩ := hSw
       go_simp)
    try simp only [List.setIfInBounds_toArray, List.set_cons_zero, List.set_cons_succ]
    refine take_on 5 30 (.slice bo T.body.length bc) rfl (by kernel_rfl) (by kernel_rfl) (by kernel_rfl) (fun _ _ _ _ _ h => h) ?_ (by assumption) ?_
    · (rintro oi h; cases h; refine ⟨by rfl, ?_⟩; intro W hSw; (try dsimp only at hSw); obtain ⟨hs0, hs1, hs2⟩ := hSw
       go_simp)
    try simp only [List.setIfInBounds_toArray, List.set_cons_zero, List.set_cons_succ]
    have hV0 : Below w4.heap.size w4 w4.drew := (Below.refl w4.heap.size w4).drew
    clear a0 a1 a2
    generalize w4.drew = v0 at hHeld hV0 ⊢
    refine wpAnyH_ready (rs := [6, 12]) (by kernel_rfl) (by simp) ?_
    refine AllReadyH.cons rfl (fun K hK => ?_) (AllReadyH.cons rfl (fun K hK => ?_) AllReadyH.nil)
    ·
      go_simp
      refine (bare_ok T.body w4 v0 _ (Lib.hid hV0) HS4 hcn6).mono ?_
      rintro e v5 ⟨bo5, bc5, rfl, hse5, hb5⟩
      have hV5 := below_keep hb5 hV0
      have hst5 := hse5.sts hV5
      have kk := at3_keep (show at3 v0 w.heap.size X T.dir _ from hHeld) hb5
      clear hse5 hb5 hHeld
      refine hK.out _ _ kk (fun hHeld => ?_)
      clear hK K
      try simp only [List.setIfInBounds_toArray, List.set_cons_zero, List.set_cons_succ]
      refine take_on 7 32 (.agg #[.string X, .bool T.dir, .slice bo5 (bareL T.body).length bc5]) rfl (by kernel_rfl) (by kernel_rfl) (by kernel_rfl) (fun _ _ _ _ _ h => h) ?_ (by assumption) ?_
      · (rintro oi h; cases h; refine ⟨by rfl, ?_⟩; intro W hSw; (try dsimp only at hSw); obtain ⟨hs0, hs1, hs2⟩ := hSw
         go_simp)
      try simp only [List.setIfInBounds_toArray, List.set_cons_zero, List.set_cons_succ]
      refine wpAnyH_ready (rs := [8, 12]) (by kernel_rfl) (by simp) ?_
      refine AllReadyH.cons rfl (fun K hK => ?_) (AllReadyH.cons rfl (fun K hK => ?_) AllReadyH.nil)
      ·
        go_simp
        refine (build_of _ ⟨T.name, T.dir, bareL T.body⟩ G 0 v5 (mx_keep HM4 hV5) (Lib.hid ⟨_, by rw [HX.out], HNM.out, hst5⟩) hcb (Lib.hid (okL_bare HOK.out)) (Lib.hid (build_bare HG.out))).mono ?_
        rintro e v6 ⟨gv, rfl, hgv, hb6⟩
        have hgg := hgv
        obtain ⟨nv, ev, cv, rfl, -, hns, hes, hcs⟩ := hgv
        obtain ⟨mo, mc, rfl, -, -, -⟩ := hns
        obtain ⟨fo, fc, rfl, -, -, -⟩ := hes
        obtain ⟨ko, kc, rfl, -, -, -⟩ := hcs
        have hV6 := below_keep hb6 hV5
        have kk := at3_keep (show at3 v5 w.heap.size X T.dir _ from hHeld) hb6
        clear hb6 hHeld
        refine hK.out _ _ kk (fun hHeld => ?_)
        clear hK K
        try simp only [List.setIfInBounds_toArray, List.set_cons_zero, List.set_cons_succ]
        refine take_on 9 24 (.tuple #[(.agg #[.string (bb G.nm), .bool G.dir, .slice mo G.ns.length mc, .slice fo G.es.length fc, .slice ko G.cs.length kc]), .int .i64 0]) rfl (by kernel_rfl) (by kernel_rfl) (by kernel_rfl) (fun _ _ _ _ _ h => h) ?_ (by assumption) ?_
        · (rintro oi h; cases h; refine ⟨by rfl, ?_⟩; intro W hSw; (try dsimp only at hSw); obtain ⟨hs0, hs1, hs2⟩ := hSw
           go_simp)
        try simp only [List.setIfInBounds_toArray, List.set_cons_zero, List.set_cons_succ]
        refine take_on 10 34 (.agg #[.string (bb G.nm), .bool G.dir, .slice mo G.ns.length mc, .slice fo G.es.length fc, .slice ko G.cs.length kc]) rfl (by kernel_rfl) (by kernel_rfl) (by kernel_rfl) (fun _ _ _ _ _ h => h) ?_ (by assumption) ?_
        · (rintro oi h; cases h; refine ⟨by rfl, ?_⟩; intro W hSw; (try dsimp only at hSw); obtain ⟨hs0, hs1, hs2⟩ := hSw
           go_simp)
        try simp only [List.setIfInBounds_toArray, List.set_cons_zero, List.set_cons_succ]
        refine take_on 11 35 (.int .i64 0) rfl (by kernel_rfl) (by kernel_rfl) (by kernel_rfl) (fun _ _ _ _ _ h => h) ?_ (by assumption) ?_
        · (rintro oi h; cases h; refine ⟨by rfl, ?_⟩; intro W hSw; (try dsimp only at hSw); obtain ⟨hs0, hs1, hs2⟩ := hSw
           go_simp)
        try simp only [List.setIfInBounds_toArray, List.set_cons_zero, List.set_cons_succ]
        refine wpAnyH_ready (rs := [12]) (by kernel_rfl) (by simp) ?_
        refine AllReadyH.cons rfl (fun K hK => ?_) AllReadyH.nil
        go_simp
        have hal := al1 v6 (.cells #[.string ⟨#[]⟩, .bool false, .slice none 0 0, .slice none 0 0, .slice none 0 0] 31)
        have hV7 := below_keep hal hV6
        have hx7 : gbx (v6.alloc (.cells #[.string ⟨#[]⟩, .bool false, .slice none 0 0, .slice none 0 0, .slice none 0 0] 31)) v6.heap.size := blk_new v6 #[.string ⟨#[]⟩, .bool false, .slice none 0 0, .slice none 0 0, .slice none 0 0] 31
        have kk := at3_keep (show at3 v6 w.heap.size X T.dir _ from hHeld) hal
        have hBw : w4.heap.size ≤ v6.heap.size := hV6.size
        have hgg' := hgg.keep hal
        clear hal hHeld
        refine hK.out _ _ kk (fun hHeld => ?_)
        clear hK K
        try simp only [List.setIfInBounds_toArray, List.set_cons_zero, List.set_cons_succ]
        obtain ⟨B, hBe⟩ : ∃ B, v6.heap.size = B := ⟨_, rfl⟩
        simp only [hBe] at hx7 hBw ⊢
        generalize v6.alloc (.cells #[.string ⟨#[]⟩, .bool false, .slice none 0 0, .slice none 0 0, .slice none 0 0] 31) = v7 at *
        clear hBe
        refine wpAnyH_ready (rs := [13]) (by kernel_rfl) (by simp) ?_
        refine AllReadyH.cons rfl (fun K hK => ?_) AllReadyH.nil
        have g0 : v7.cell? ⟨B, 0, none⟩ = some (.string ⟨#[]⟩) := by rw [blk_cell hx7]; rfl
        have f0 := blk_open hx7 0
        have g1 : v7.cell? ⟨B, 1, none⟩ = some (.bool false) := by rw [blk_cell hx7]; rfl
        have f1 := blk_open hx7 1
        have g2 : v7.cell? ⟨B, 2, none⟩ = some (.slice none 0 0) := by rw [blk_cell hx7]; rfl
        have f2 := blk_open hx7 2
        have g3 : v7.cell? ⟨B, 3, none⟩ = some (.slice none 0 0) := by rw [blk_cell hx7]; rfl
        have f3 := blk_open hx7 3
        have g4 : v7.cell? ⟨B, 4, none⟩ = some (.slice none 0 0) := by rw [blk_cell hx7]; rfl
        have f4 := blk_open hx7 4
        go_simp
        obtain ⟨hg9, hq9⟩ := box_store (nm := bb G.nm) (d := G.dir) (o1 := mo) (n1 := G.ns.length) (c1 := mc) (o2 := fo) (n2 := G.es.length) (c2 := fc) (o3 := ko) (n3 := G.cs.length) (c3 := kc) hx7 hgg'
        have hV9 := below_set5 hV7 hBw (.string (bb G.nm)) (.bool G.dir) (.slice mo G.ns.length mc) (.slice fo G.es.length fc) (.slice ko G.cs.length kc)
        have kk := at3_keep HA4.out hV9
        clear g0 g1 g2 g3 g4 f0 f1 f2 f3 f4 hHeld
        refine hK.out _ _ kk (fun hHeld => ?_)
        clear hK K
        try simp only [List.setIfInBounds_toArray, List.set_cons_zero, List.set_cons_succ]
        generalize (((((v7.setCell ⟨B, 0, none⟩ (.string (bb G.nm))).setCell ⟨B, 1, none⟩ (.bool G.dir)).setCell ⟨B, 2, none⟩ (.slice mo G.ns.length mc)).setCell ⟨B, 3, none⟩ (.slice fo G.es.length fc)).setCell ⟨B, 4, none⟩ (.slice ko G.cs.length kc)) = v9 at *
        refine wpAnyH_ready (rs := [14]) (by kernel_rfl) (by simp) ?_
        refine AllReadyH.cons rfl (fun K hK => ?_) AllReadyH.nil
        go_simp
        refine hK.out _ _ hHeld (fun hHeld => ?_)
        clear hK K
        try simp only [List.setIfInBounds_toArray, List.set_cons_zero, List.set_cons_succ]
        refine wpAnyH_done (by kernel_rfl) ?_ _
        go_wp2_with fail
        go_meet
        exact ⟨B, _, _, _, _, _, _, _, _, _, rfl, rfl, hq9, hg9, hV9⟩
      ·
        go_simp
        have hal := al1 v5 (.cells #[.string ⟨#[]⟩, .bool false, .slice none 0 0, .slice none 0 0, .slice none 0 0] 31)
        have hV6 := below_keep hal hV5
        have hx6 : gbx (v5.alloc (.cells #[.string ⟨#[]⟩, .bool false, .slice none 0 0, .slice none 0 0, .slice none 0 0] 31)) v5.heap.size := blk_new v5 #[.string ⟨#[]⟩, .bool false, .slice none 0 0, .slice none 0 0, .slice none 0 0] 31
        have kk := at3_keep (show at3 v5 w.heap.size X T.dir _ from hHeld) hal
        have hBw : w4.heap.size ≤ v5.heap.size := hV5.size
        have hst5' := hst5.keep hal
        clear hal hHeld
        refine hK.out _ _ kk (fun hHeld => ?_)
        clear hK K
        try simp only [List.setIfInBounds_toArray, List.set_cons_zero, List.set_cons_succ]
        obtain ⟨B, hBe⟩ : ∃ B, v5.heap.size = B := ⟨_, rfl⟩
        simp only [hBe] at hx6 hBw ⊢
        generalize v5.alloc (.cells #[.string ⟨#[]⟩, .bool false, .slice none 0 0, .slice none 0 0, .slice none 0 0] 31) = v6 at *
        clear hBe
        refine wpAnyH_ready (rs := [8]) (by kernel_rfl) (by simp) ?_
        refine AllReadyH.cons rfl (fun K hK => ?_) AllReadyH.nil
        go_simp
        refine (build_of _ ⟨T.name, T.dir, bareL T.body⟩ G 0 v6 (mx_keep HM4 hV6) (Lib.hid ⟨_, by rw [HX.out], HNM.out, hst5'⟩) hcb (Lib.hid (okL_bare HOK.out)) (Lib.hid (build_bare HG.out))).mono ?_
        rintro e v7 ⟨gv, rfl, hgv, hb7⟩
        have hgg := hgv
        obtain ⟨nv, ev, cv, rfl, -, hns, hes, hcs⟩ := hgv
        obtain ⟨mo, mc, rfl, -, -, -⟩ := hns
        obtain ⟨fo, fc, rfl, -, -, -⟩ := hes
        obtain ⟨ko, kc, rfl, -, -, -⟩ := hcs
        have hV7 := below_keep hb7 hV6
        have kk := at3_keep (show at3 v6 w.heap.size X T.dir _ from hHeld) hb7
        have hx7 : gbx v7 B := blk_below hx6 hb7
        clear hb7 hHeld
        refine hK.out _ _ kk (fun hHeld => ?_)
        clear hK K
        try simp only [List.setIfInBounds_toArray, List.set_cons_zero, List.set_cons_succ]
        refine take_on 9 24 (.tuple #[(.agg #[.string (bb G.nm), .bool G.dir, .slice mo G.ns.length mc, .slice fo G.es.length fc, .slice ko G.cs.length kc]), .int .i64 0]) rfl (by kernel_rfl) (by kernel_rfl) (by kernel_rfl) (fun _ _ _ _ _ h => h) ?_ (by assumption) ?_
        · (rintro oi h; cases h; refine ⟨by rfl, ?_⟩; intro W hSw; (try dsimp only at hSw); obtain ⟨hs0, hs1, hs2⟩ := hSw
           go_simp)
        try simp only [List.setIfInBounds_toArray, List.set_cons_zero, List.set_cons_succ]
        refine take_on 10 34 (.agg #[.string (bb G.nm), .bool G.dir, .slice mo G.ns.length mc, .slice fo G.es.length fc, .slice ko G.cs.length kc]) rfl (by kernel_rfl) (by kernel_rfl) (by kernel_rfl) (fun _ _ _ _ _ h => h) ?_ (by assumption) ?_
        · (rintro oi h; cases h; refine ⟨by rfl, ?_⟩; intro W hSw; (try dsimp only at hSw); obtain ⟨hs0, hs1, hs2⟩ := hSw
           go_simp)
        try simp only [List.setIfInBounds_toArray, List.set_cons_zero, List.set_cons_succ]
        refine take_on 11 35 (.int .i64 0) rfl (by kernel_rfl) (by kernel_rfl) (by kernel_rfl) (fun _ _ _ _ _ h => h) ?_ (by assumption) ?_
        · (rintro oi h; cases h; refine ⟨by rfl, ?_⟩; intro W hSw; (try dsimp only at hSw); obtain ⟨hs0, hs1, hs2⟩ := hSw
           go_simp)
        try simp only [List.setIfInBounds_toArray, List.set_cons_zero, List.set_cons_succ]
        refine wpAnyH_ready (rs := [13]) (by kernel_rfl) (by simp) ?_
        refine AllReadyH.cons rfl (fun K hK => ?_) AllReadyH.nil
        have g0 : v7.cell? ⟨B, 0, none⟩ = some (.string ⟨#[]⟩) := by rw [blk_cell hx7]; rfl
        have f0 := blk_open hx7 0
        have g1 : v7.cell? ⟨B, 1, none⟩ = some (.bool false) := by rw [blk_cell hx7]; rfl
        have f1 := blk_open hx7 1
        have g2 : v7.cell? ⟨B, 2, none⟩ = some (.slice none 0 0) := by rw [blk_cell hx7]; rfl
        have f2 := blk_open hx7 2
        have g3 : v7.cell? ⟨B, 3, none⟩ = some (.slice none 0 0) := by rw [blk_cell hx7]; rfl
        have f3 := blk_open hx7 3
        have g4 : v7.cell? ⟨B, 4, none⟩ = some (.slice none 0 0) := by rw [blk_cell hx7]; rfl
        have f4 := blk_open hx7 4
        go_simp
        obtain ⟨hg9, hq9⟩ := box_store (nm := bb G.nm) (d := G.dir) (o1 := mo) (n1 := G.ns.length) (c1 := mc) (o2 := fo) (n2 := G.es.length) (c2 := fc) (o3 := ko) (n3 := G.cs.length) (c3 := kc) hx7 hgg
        have hV9 := below_set5 hV7 hBw (.string (bb G.nm)) (.bool G.dir) (.slice mo G.ns.length mc) (.slice fo G.es.length fc) (.slice ko G.cs.length kc)
        have kk := at3_keep HA4.out hV9
        clear g0 g1 g2 g3 g4 f0 f1 f2 f3 f4 hHeld
        refine hK.out _ _ kk (fun hHeld => ?_)
        clear hK K
        try simp only [List.setIfInBounds_toArray, List.set_cons_zero, List.set_cons_succ]
        generalize (((((v7.setCell ⟨B, 0, none⟩ (.string (bb G.nm))).setCell ⟨B, 1, none⟩ (.bool G.dir)).setCell ⟨B, 2, none⟩ (.slice mo G.ns.length mc)).setCell ⟨B, 3, none⟩ (.slice fo G.es.length fc)).setCell ⟨B, 4, none⟩ (.slice ko G.cs.length kc)) = v9 at *
        refine wpAnyH_ready (rs := [14]) (by kernel_rfl) (by simp) ?_
        refine AllReadyH.cons rfl (fun K hK => ?_) AllReadyH.nil
        go_simp
        refine hK.out _ _ hHeld (fun hHeld => ?_)
        clear hK K
        try simp only [List.setIfInBounds_toArray, List.set_cons_zero, List.set_cons_succ]
        refine wpAnyH_done (by kernel_rfl) ?_ _
        go_wp2_with fail
        go_meet
        exact ⟨B, _, _, _, _, _, _, _, _, _, rfl, rfl, hq9, hg9, hV9⟩
    ·
      go_simp
      have hal := al1 v0 (.cells #[.string ⟨#[]⟩, .bool false, .slice none 0 0, .slice none 0 0, .slice none 0 0] 31)
      have hV1 := below_keep hal hV0
      have hx1 : gbx (v0.alloc (.cells #[.string ⟨#[]⟩, .bool false, .slice none 0 0, .slice none 0 0, .slice none 0 0] 31)) v0.heap.size := blk_new v0 #[.string ⟨#[]⟩, .bool false, .slice none 0 0, .slice none 0 0, .slice none 0 0] 31
      have kk := at3_keep (show at3 v0 w.heap.size X T.dir _ from hHeld) hal
      have hBw : w4.heap.size ≤ v0.heap.size := hV0.size
      clear hal hHeld
      refine hK.out _ _ kk (fun hHeld => ?_)
      clear hK K
      try simp only [List.setIfInBounds_toArray, List.set_cons_zero, List.set_cons_succ]
      obtain ⟨B, hBe⟩ : ∃ B, v0.heap.size = B := ⟨_, rfl⟩
      simp only [hBe] at hx1 hBw ⊢
      generalize v0.alloc (.cells #[.string ⟨#[]⟩, .bool false, .slice none 0 0, .slice none 0 0, .slice none 0 0] 31) = v1 at *
      clear hBe
      refine wpAnyH_ready (rs := [6]) (by kernel_rfl) (by simp) ?_
      refine AllReadyH.cons rfl (fun K hK => ?_) AllReadyH.nil
      go_simp
      refine (bare_ok T.body w4 v1 _ (Lib.hid hV1) HS4 hcn6).mono ?_
      rintro e v5 ⟨bo5, bc5, rfl, hse5, hb5⟩
      have hV5 := below_keep hb5 hV1
      have hst5 := hse5.sts hV5
      have kk := at3_keep (show at3 v1 w.heap.size X T.dir _ from hHeld) hb5
      have hx5 : gbx v5 B := blk_below hx1 hb5
      clear hse5 hb5 hHeld
      refine hK.out _ _ kk (fun hHeld => ?_)
      clear hK K
      try simp only [List.setIfInBounds_toArray, List.set_cons_zero, List.set_cons_succ]
      refine take_on 7 32 (.agg #[.string X, .bool T.dir, .slice bo5 (bareL T.body).length bc5]) rfl (by kernel_rfl) (by kernel_rfl) (by kernel_rfl) (fun _ _ _ _ _ h => h) ?_ (by assumption) ?_
      · (rintro oi h; cases h; refine ⟨by rfl, ?_⟩; intro W hSw; (try dsimp only at hSw); obtain ⟨hs0, hs1, hs2⟩ := hSw
         go_simp)
      try simp only [List.setIfInBounds_toArray, List.set_cons_zero, List.set_cons_succ]
      refine wpAnyH_ready (rs := [8]) (by kernel_rfl) (by simp) ?_
      refine AllReadyH.cons rfl (fun K hK => ?_) AllReadyH.nil
      go_simp
      refine (build_of _ ⟨T.name, T.dir, bareL T.body⟩ G 0 v5 (mx_keep HM4 hV5) (Lib.hid ⟨_, by rw [HX.out], HNM.out, hst5⟩) hcb (Lib.hid (okL_bare HOK.out)) (Lib.hid (build_bare HG.out))).mono ?_
      rintro e v7 ⟨gv, rfl, hgv, hb7⟩
      have hgg := hgv
      obtain ⟨nv, ev, cv, rfl, -, hns, hes, hcs⟩ := hgv
      obtain ⟨mo, mc, rfl, -, -, -⟩ := hns
      obtain ⟨fo, fc, rfl, -, -, -⟩ := hes
      obtain ⟨ko, kc, rfl, -, -, -⟩ := hcs
      have hV7 := below_keep hb7 hV5
      have kk := at3_keep (show at3 v5 w.heap.size X T.dir _ from hHeld) hb7
      have hx7 : gbx v7 B := blk_below hx5 hb7
      clear hb7 hHeld
      refine hK.out _ _ kk (fun hHeld => ?_)
      clear hK K
      try simp only [List.setIfInBounds_toArray, List.set_cons_zero, List.set_cons_succ]
      refine take_on 9 24 (.tuple #[(.agg #[.string (bb G.nm), .bool G.dir, .slice mo G.ns.length mc, .slice fo G.es.length fc, .slice ko G.cs.length kc]), .int .i64 0]) rfl (by kernel_rfl) (by kernel_rfl) (by kernel_rfl) (fun _ _ _ _ _ h => h) ?_ (by assumption) ?_
      · (rintro oi h; cases h; refine ⟨by rfl, ?_⟩; intro W hSw; (try dsimp only at hSw); obtain ⟨hs0, hs1, hs2⟩ := hSw
         go_simp)
      try simp only [List.setIfInBounds_toArray, List.set_cons_zero, List.set_cons_succ]
      refine take_on 10 34 (.agg #[.string (bb G.nm), .bool G.dir, .slice mo G.ns.length mc, .slice fo G.es.length fc, .slice ko G.cs.length kc]) rfl (by kernel_rfl) (by kernel_rfl) (by kernel_rfl) (fun _ _ _ _ _ h => h) ?_ (by assumption) ?_
      · (rintro oi h; cases h; refine ⟨by rfl, ?_⟩; intro W hSw; (try dsimp only at hSw); obtain ⟨hs0, hs1, hs2⟩ := hSw
         go_simp)
      try simp only [List.setIfInBounds_toArray, List.set_cons_zero, List.set_cons_succ]
      refine take_on 11 35 (.int .i64 0) rfl (by kernel_rfl) (by kernel_rfl) (by kernel_rfl) (fun _ _ _ _ _ h => h) ?_ (by assumption) ?_
      · (rintro oi h; cases h; refine ⟨by rfl, ?_⟩; intro W hSw; (try dsimp only at hSw); obtain ⟨hs0, hs1, hs2⟩ := hSw
         go_simp)
      try simp only [List.setIfInBounds_toArray, List.set_cons_zero, List.set_cons_succ]
      refine wpAnyH_ready (rs := [13]) (by kernel_rfl) (by simp) ?_
      refine AllReadyH.cons rfl (fun K hK => ?_) AllReadyH.nil
      have g0 : v7.cell? ⟨B, 0, none⟩ = some (.string ⟨#[]⟩) := by rw [blk_cell hx7]; rfl
      have f0 := blk_open hx7 0
      have g1 : v7.cell? ⟨B, 1, none⟩ = some (.bool false) := by rw [blk_cell hx7]; rfl
      have f1 := blk_open hx7 1
      have g2 : v7.cell? ⟨B, 2, none⟩ = some (.slice none 0 0) := by rw [blk_cell hx7]; rfl
      have f2 := blk_open hx7 2
      have g3 : v7.cell? ⟨B, 3, none⟩ = some (.slice none 0 0) := by rw [blk_cell hx7]; rfl
      have f3 := blk_open hx7 3
      have g4 : v7.cell? ⟨B, 4, none⟩ = some (.slice none 0 0) := by rw [blk_cell hx7]; rfl
      have f4 := blk_open hx7 4
      go_simp
      obtain ⟨hg9, hq9⟩ := box_store (nm := bb G.nm) (d := G.dir) (o1 := mo) (n1 := G.ns.length) (c1 := mc) (o2 := fo) (n2 := G.es.length) (c2 := fc) (o3 := ko) (n3 := G.cs.length) (c3 := kc) hx7 hgg
      have hV9 := below_set5 hV7 hBw (.string (bb G.nm)) (.bool G.dir) (.slice mo G.ns.length mc) (.slice fo G.es.length fc) (.slice ko G.cs.length kc)
      have kk := at3_keep HA4.out hV9
      clear g0 g1 g2 g3 g4 f0 f1 f2 f3 f4 hHeld
      refine hK.out _ _ kk (fun hHeld => ?_)
      clear hK K
      try simp only [List.setIfInBounds_toArray, List.set_cons_zero, List.set_cons_succ]
      generalize (((((v7.setCell ⟨B, 0, none⟩ (.string (bb G.nm))).setCell ⟨B, 1, none⟩ (.bool G.dir)).setCell ⟨B, 2, none⟩ (.slice mo G.ns.length mc)).setCell ⟨B, 3, none⟩ (.slice fo G.es.length fc)).setCell ⟨B, 4, none⟩ (.slice ko G.cs.length kc)) = v9 at *
      refine wpAnyH_ready (rs := [14]) (by kernel_rfl) (by simp) ?_
      refine AllReadyH.cons rfl (fun K hK => ?_) AllReadyH.nil
      go_simp
      refine hK.out _ _ hHeld (fun hHeld => ?_)
      clear hK K
      try simp only [List.setIfInBounds_toArray, List.set_cons_zero, List.set_cons_succ]
      refine wpAnyH_done (by kernel_rfl) ?_ _
      go_wp2_with fail
      go_meet
      exact ⟨B, _, _, _, _, _, _, _, _, _, rfl, rfl, hq9, hg9, hV9⟩
  case rest =>
    obtain ⟨B, o1, o2, o3, n1, c1, n2, c2, n3, c3, rfl, rfl, hgat5, hgv5, hb5⟩ := hcut
    have HB5 := Lib.hid (below_keep hb5 HB4.out)
    have HT5 := Lib.hid (HT4.out.keep hb5)
    have HS5 := Lib.hid (HS4.out.keep hb5)
    have HM5 := mx_keep HM4 hb5
    have HA5 := Lib.hid (at3_keep HA4.out hb5)
    have HGV5 := Lib.hid (HGV4.out.keep hb5)
    have HGA5 := Lib.hid (gra.gat_keep HGA4.out hb5)
    have HGW5 := Lib.hid hgv5
    have HGT5 := Lib.hid hgat5
    clear hb5 hgv5 hgat5 HB4 HT4 HS4 HM4 HA4 HGV4 HGA4 a0 a1 a2
    obtain ⟨a0, a1, a2⟩ := HA5.out
    go_wp2_with fail
    clear a0 a1 a2
    refine (opts_of _ T o 0 wc HM5 HT5 hc2 HOP).mono ?_
    rintro e w6 ⟨he, hb6⟩
    have he2 : e = .returned (.tuple #[.agg #[.int .i64 o.mode, .int .i64 o.ns, .int .i64 o.rs, .int .i64 o.mg, .int .i64 o.rd], .int .i64 0]) := he
    subst he2
    have hal := al1 w6 (.cells #[.int .i64 o.mode, .int .i64 o.ns, .int .i64 o.rs, .int .i64 o.mg, .int .i64 o.rd] 38)
    have hq := below_keep hal hb6
    have HP7 := Lib.hid (at5_new w6 o 38)
    have HT7 := Lib.hid (HT5.out.keep hq)
    have HS7 := Lib.hid (HS5.out.keep hq)
    have HM7 := mx_keep HM5 hq
    have HA7 := Lib.hid (at3_keep HA5.out hq)
    have HGV7 := Lib.hid (HGV5.out.keep hq)
    have HGA7 := Lib.hid (gra.gat_keep HGA5.out hq)
    have HGW7 := Lib.hid (HGW5.out.keep hq)
    have HGT7 := Lib.hid (gra.gat_keep HGT5.out hq)
    have HB7 := Lib.hid (below_keep hq HB5.out)
    clear HT5 HS5 HM5 HA5 HGV5 HGA5 HGW5 HGT5 HB5
    clear he hb6 hal hq
    obtain ⟨a0, a1, a2⟩ := HA7.out
    go_wp2_with fail
    clear a0 a1 a2
    generalize w6.alloc (.cells #[.int .i64 o.mode, .int .i64 o.ns, .int .i64 o.rs, .int .i64 o.mg, .int .i64 o.rd] 38) = w7 at *
    refine (sets_ok T.body w7 w7 w7.heap.size (.slice bo T.body.length bc) (.slice none 0 0) [] (Lib.hid (Below.refl _ _)) HS7 (Nat.le_refl _) (Nat.le_refl _) (Lib.hid (World.ownsRow_nil ..)) (Lib.hid (fun x hx => by cases hx)) (by simp; omega)).mono ?_
    rintro e w8 ⟨v8, D8, rfl, own8, hm8, hd8, hb8⟩
    have hst8 := se_sts own8 hd8 hb8 hb8.size
    rw [hm8, List.map_nil, List.nil_append] at hst8
    obtain ⟨so8, sc8, rfl, -, -⟩ := own_form own8
    have HTS : Hid (TrV w8 (.agg #[.string ⟨#[104]⟩, .bool false, .slice so8 D8.length sc8]) ⟨[104], false, setsL T.body⟩) := Lib.hid ⟨_, rfl, by show ([104] : List UInt8).length ≤ maxLen; decide, hst8⟩
    have HT8 := Lib.hid (HT7.out.keep hb8)
    have HS8 := Lib.hid (HS7.out.keep hb8)
    have HM8 := mx_keep HM7 hb8
    have HA8 := Lib.hid (at3_keep HA7.out hb8)
    have HGV8 := Lib.hid (HGV7.out.keep hb8)
    have HGA8 := Lib.hid (gra.gat_keep HGA7.out hb8)
    have HGW8 := Lib.hid (HGW7.out.keep hb8)
    have HGT8 := Lib.hid (gra.gat_keep HGT7.out hb8)
    have HP8 := Lib.hid (at5_kept HP7.out hb8)
    have HB8 := Lib.hid (below_keep hb8 HB7.out)
    clear HT7 HS7 HM7 HA7 HGV7 HGA7 HGW7 HGT7 HB7 HP7
    clear own8 hm8 hd8 hb8 hst8
    obtain ⟨hos, hcs8⟩ := opts_sets HVT.out HOP.out
    have HOS := Lib.hid hos
    have hcs9 : cnt (setsL T.body) ≤ 2000000000000 := by omega
    clear hos hcs8
    go_wp2_with fail
    refine (opts_of _ ⟨[104], false, setsL T.body⟩ o 0 w8 HM8 HTS hcs9 HOS).mono ?_
    rintro e w9 ⟨he, hb9⟩
    have he2 : e = .returned (.tuple #[.agg #[.int .i64 o.mode, .int .i64 o.ns, .int .i64 o.rs, .int .i64 o.mg, .int .i64 o.rd], .int .i64 0]) := he
    subst he2
    have hal := al1 w9 (.cells #[.int .i64 o.mode, .int .i64 o.ns, .int .i64 o.rs, .int .i64 o.mg, .int .i64 o.rd] 38)
    have hq := below_keep hal hb9
    have HQ10 := Lib.hid (at5_new w9 o 38)
    have HT10 := Lib.hid (HT8.out.keep hq)
    have HS10 := Lib.hid (HS8.out.keep hq)
    have HM10 := mx_keep HM8 hq
    have HA10 := Lib.hid (at3_keep HA8.out hq)
    have HGV10 := Lib.hid (HGV8.out.keep hq)
    have HGA10 := Lib.hid (gra.gat_keep HGA8.out hq)
    have HGW10 := Lib.hid (HGW8.out.keep hq)
    have HGT10 := Lib.hid (gra.gat_keep HGT8.out hq)
    have HP10 := Lib.hid (at5_kept HP8.out hq)
    have HB10 := Lib.hid (below_keep hq HB8.out)
    clear HT8 HS8 HM8 HA8 HGV8 HGA8 HGW8 HGT8 HB8 HP8
    clear he hb9 hal hq HTS
    obtain ⟨g0, g1, g2, g3, g4⟩ := HGA10.out
    obtain ⟨r0, r1, r2, r3, r4⟩ := HGT10.out
    go_wp2_with fail
    clear g0 g1 g2 g3 g4 r0 r1 r2 r3 r4
    generalize w9.alloc (.cells #[.int .i64 o.mode, .int .i64 o.ns, .int .i64 o.rs, .int .i64 o.mg, .int .i64 o.rd] 38) = w10 at *
    refine (gra.gsame_of _ _ G G true w10 HGV10 HGW10 (Lib.hid (by simp))).mono ?_
    rintro e w11 ⟨rfl, hb11⟩
    have HB11 := Lib.hid (below_keep hb11 HB10.out)
    have HM11 := mx_keep HM10 hb11
    obtain ⟨k0, k1, k2, k3, k4⟩ := at5_kept HP10.out hb11
    obtain ⟨q0, q1, q2, q3, q4⟩ := at5_kept HQ10.out hb11
    have heq := eql_op o o true (Lib.hid (by simp))
    have hgo := guard_op
    clear hb11 HP10 HQ10 HB10 HM10 HT10 HS10 HA10 HGV10 HGA10 HGW10 HGT10
    go_wp2_with fail
    refine (awake_of _ HM11).mono ?_
    rintro e w12 ⟨rfl, hb12⟩
    have HBF := Lib.hid (below_keep hb12 HB11.out)
    clear hb12
    go_wp2
    go_ret
    exact ⟨rfl, HBF.out⟩
end Go.Proofs.YtcdoicgbjoikkaaGreatDoor.nor
