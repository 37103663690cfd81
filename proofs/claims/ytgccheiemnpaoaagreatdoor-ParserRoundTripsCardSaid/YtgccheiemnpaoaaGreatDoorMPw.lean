/-
  What the guard few of the statements of layer 9 answers: if it says yes, the tree has fewer than 10^12 statements with few references and attributes. Condition: statements in memory.
  The text of a small valid tree has at most 900000 bytes. No function of the program is named here; no condition.
-/
import Derived.Test.YtgccheiemnpaoaaGreatDoorMTw
import Derived.Test.YtgccheiemnpaoaaGreatDoorMPo
namespace Go.Proofs.YtgccheiemnpaoaaGreatDoor.par
open Go.RowKit lex tre

/-- So many statements at most, with so many levels left. -/
def fewN : Nat → Nat
  | 0 => 0
  | k + 1 => 20 * (1 + fewN k)
def FewOut (l : List St) (k : Nat) (w : World) (e : Ending) (w' : World) : Prop := ∃ b, e = .returned (.bool b) ∧ (b = true → cnt l ≤ fewN k ∧ okL l) ∧ w' = w
def FewOk (l : List St) : Prop := ∀ (w : World) (v : Value) (k : Nat) (d : Int), k ≤ 9 → d = 9 - (k : Int) → Sts w v l → Calls Tryz.prog 6 #[v, .int .i64 d] w (FewOut l k w)
theorem ok_snoc {l : List St} {s : St} (h : okL l) (h1 : s.refs.length ≤ 40) (h2 : s.attrs.length ≤ 40) (hb : okL s.body) : okL (l ++ [s]) := by
  intro x hx
  rw [preL_app] at hx
  rcases List.mem_append.1 hx with hx | hx
  · exact h x hx
  · exact okL_cons.2 ⟨⟨h1, h2⟩, hb, fun y hy => by cases hy⟩ x hx
theorem cnt_snoc (l : List St) (s : St) : cnt (l ++ [s]) = cnt l + 1 + cnt s.body := by
  unfold cnt
  rw [preL_app, List.length_append, preL_cons, preL_nil, List.append_nil, preS_eq, List.length_cons, pre_len.2 s.body _ 0]
  omega
set_option maxRecDepth 100000 in
set_option maxHeartbeats 8000000 in
theorem few_step (l : List St) (ih : ∀ s ∈ l, FewOk s.body) : FewOk l := by
  intro w v q d hq hd hs
  have hs' := hs
  obtain ⟨ao, cap, rfl, hc, hm, _⟩ := hs'
  have HS := Lib.hid hs
  have IH := Lib.hid ih
  unfold maxLen at hm
  have hlm : l.length ≤ 9223372036854775807 := by omega
  clear hs ih hc hm
  by_cases g1 : (20 : Int) < (l.length : Int)
  · have d1 : decide ((20 : Int) < (l.length : Int)) = true := decide_eq_true g1
    have d1' : decide (20 < l.length) = true := decide_eq_true (by omega)
    clear hd
    go_enter Tryz.func6, Tryz.ntmps6
    go_wp2
    go_ret
    exact ⟨false, rfl, (fun h => by cases h), rfl⟩
  have d1 : decide ((20 : Int) < (l.length : Int)) = false := decide_eq_false g1
  have d1' : decide (20 < l.length) = false := decide_eq_false (by omega)
  by_cases g2 : (8 : Int) < d
  · have d2 : decide ((8 : Int) < d) = true := decide_eq_true g2
    clear hd
    go_enter Tryz.func6, Tryz.ntmps6
    go_wp2
    go_ret
    exact ⟨false, rfl, (fun h => by cases h), rfl⟩
  have d2 : decide ((8 : Int) < d) = false := decide_eq_false g2
  obtain ⟨p, rfl⟩ : ∃ p, q = p + 1 := ⟨q - 1, by omega⟩
  have HD : Hid (d + 1 = 9 - (p : Int)) := Lib.hid (by omega)
  have hd0 : 0 ≤ d := by omega
  have hd9 : d ≤ 9 := by omega
  have hp9 : p ≤ 9 := by omega
  have hl20 : l.length ≤ 20 := by omega
  clear hd hq
  go_enter Tryz.func6, Tryz.ntmps6
  go_wp2_with fail
  go_loop [5] (fun iv => ∃ k : Nat, iv = .int .i64 k ∧ k ≤ l.length ∧ cnt (l.take k) ≤ k * (1 + fewN p) ∧ okL (l.take k)) (fun iv => l.length - (intOf iv).toNat)
  case atStart => exact ⟨0, rfl, Nat.zero_le _, by rw [List.take_zero, cnt_nil]; omega, fun x hx => by rw [List.take_zero] at hx; cases hx⟩
  case round =>
    obtain ⟨k, rfl, hk, hcn, hok⟩ := hrel
    have HCN := Lib.hid hcn
    have HOK := Lib.hid hok
    clear hcn hok
    by_cases hlt : k < l.length
    · obtain ⟨A, rfl, hst⟩ := HS.out.get hlt
      obtain ⟨_, _, _, ⟨rv, c2, hrv⟩, ⟨av, c3, hav⟩, bv, c4, hbv⟩ := (stAt_eq _ _ _).1 hst
      obtain ⟨ro, rc, rfl, _, _, _⟩ := hrv
      obtain ⟨so, sc, rfl, _, _, _⟩ := hav
      have hb := IH.out l[k] (List.getElem_mem hlt)
      have htk := (cnt_take hlt).2
      obtain ⟨s, hse⟩ : ∃ s, l[k] = s := ⟨_, rfl⟩
      rw [hse] at c2 c3 hbv hb htk
      have HBC := Lib.hid (hb w bv p (d + 1) hp9 HD.out hbv)
      have HTK := Lib.hid htk
      have z0 : (0 : Int) ≤ (k : Int) := by omega
      have z1 : (k : Int) < (l.length : Int) := by omega
      clear hst hbv hb hse htk
      by_cases r1 : (10 : Int) < (s.refs.length : Int)
      · have e1 : decide ((10 : Int) < (s.refs.length : Int)) = true := decide_eq_true r1
        have e1' : decide (10 < s.refs.length) = true := decide_eq_true (by omega)
        go_wp2
        go_ret
        exact ⟨false, rfl, (fun h => by cases h), rfl⟩
      have e1 : decide ((10 : Int) < (s.refs.length : Int)) = false := decide_eq_false r1
      have e1' : decide (10 < s.refs.length) = false := decide_eq_false (by omega)
      by_cases r2 : (20 : Int) < (s.attrs.length : Int)
      · have e2 : decide ((20 : Int) < (s.attrs.length : Int)) = true := decide_eq_true r2
        have e2' : decide (20 < s.attrs.length) = true := decide_eq_true (by omega)
        go_wp2
        go_ret
        exact ⟨false, rfl, (fun h => by cases h), rfl⟩
      have e2 : decide ((20 : Int) < (s.attrs.length : Int)) = false := decide_eq_false r2
      have e2' : decide (20 < s.attrs.length) = false := decide_eq_false (by omega)
      have hz1 : s.refs.length ≤ 40 := by omega
      have hz2 : s.attrs.length ≤ 40 := by omega
      go_wp2_with fail
      refine HBC.out.mono ?_
      rintro e w2 ⟨b, rfl, hb, rfl⟩
      have HB := Lib.hid hb
      clear hb
      cases b
      · go_wp2
        go_ret
        exact ⟨false, rfl, (fun h => by cases h), rfl⟩
      · obtain ⟨hb1, hb2⟩ := HB.out rfl
        have HN : Hid (cnt (l.take (k + 1)) ≤ (k + 1) * (1 + fewN p) ∧ okL (l.take (k + 1))) := Lib.hid ⟨by rw [HTK.out, cnt_snoc, Nat.add_mul, Nat.one_mul]; have := HCN.out; omega, by rw [HTK.out]; exact ok_snoc HOK.out hz1 hz2 hb2⟩
        clear hb1 hb2
        go_wp2
        go_round
        case rel => exact ⟨k + 1, by go_num, by omega, HN.out.1, HN.out.2⟩
        case measure => simp [intOf]; omega
    · obtain rfl : k = l.length := by omega
      go_wp2
      go_ret
      refine ⟨true, rfl, (fun _ => ?_), rfl⟩
      have h1 := HCN.out
      have h2 := HOK.out
      rw [List.take_length] at h1 h2
      refine ⟨?_, h2⟩
      show cnt l ≤ 20 * (1 + fewN p)
      exact Nat.le_trans h1 (Nat.mul_le_mul_right _ hl20)
theorem few_of (l : List St) : FewOk l := lst_ind few_step l
theorem few_bound : fewN 9 ≤ 1000000000000 := by decide
end Go.Proofs.YtgccheiemnpaoaaGreatDoor.par
namespace Go.Proofs.YtgccheiemnpaoaaGreatDoor.prt
open Go.RowKit lex tre

theorem st_len (d : Bool) : (∀ s : St, ∀ m, vS s → (s.refs.length ≤ 40 ∧ s.attrs.length ≤ 40) ∧ okL s.body → (stS prL d m s).length ≤ (1 + cnt s.body) * (2 * (m + 4 * (1 + cnt s.body)) + 5000)) ∧
    ∀ l : List St, ∀ m, vL l → okL l → (stL prL d m l).length ≤ cnt l * (2 * (m + 4 * cnt l) + 5000) := by
  refine st_ind (fun k n r a b hb m hv ho => ?_) (fun m _ _ => by simp [stL]) (fun s t hs ht m hv ho => ?_)
  · have hatt := hv.att
    have hvals := hv.vals
    have hbody := hv.body
    have one : ∀ x : Nat, x ≤ m + 4990 → x ≤ (1 + cnt ([] : List St)) * (2 * (m + 4 * (1 + cnt ([] : List St))) + 5000) := fun x hx => by
      have e : 1 + cnt ([] : List St) = 1 := rfl
      rw [e, Nat.one_mul]; omega
    have hf := hv.form
    generalize hS : St.mk k n r a b = S at hf hv hatt hvals hbody ho ⊢
    cases hf with
    | node n' a' hn hk =>
      cases hS
      have h1 := nm_le hn
      have h2 := aft_len (hatt (by show (1 : Int) ≠ 4; decide))
      have h3 : a.length ≤ 40 := ho.1.2
      simp only [St.attrs] at h2
      refine one _ ?_
      simp only [stS, if_true, List.length_append, List.length_replicate, List.length_cons, List.length_nil]; omega
    | edge r1 r2 t' a' hr hk =>
      cases hS
      have h1 := refS_len d (l := r1 :: r2 :: t') hr
      have h2 := aft_len (hatt (by show (2 : Int) ≠ 4; decide))
      have h3 : a.length ≤ 40 := ho.1.2
      have h4 : (r1 :: r2 :: t').length ≤ 40 := ho.1.1
      simp only [St.attrs] at h2
      refine one _ ?_
      have e : stS prL d m (.mk 2 [] (r1 :: r2 :: t') a []) = List.replicate m 32 ++ (refS d (r1 :: r2 :: t') ++ (aft prL a ++ [59, 10])) := by simp [stS]
      rw [e]
      simp only [List.length_append, List.length_replicate, List.length_cons, List.length_nil] at h1 h4 ⊢; omega
    | dflt n' a' hn hk =>
      cases hS
      have h1 : n.length = 4 := by rcases hn with rfl | rfl <;> rfl
      have h2 := attS_len (hatt (by show (3 : Int) ≠ 4; decide))
      have h3 : a.length ≤ 40 := ho.1.2
      simp only [St.attrs] at h2
      refine one _ ?_
      have e : stS prL d m (.mk 3 n [] a []) = List.replicate m 32 ++ (n ++ 32 :: ((if a.isEmpty then [91, 93] else attS prL a) ++ [59, 10])) := by simp [stS]
      have h5 : (if a.isEmpty then [91, 93] else attS prL a : List UInt8).length ≤ 3500 := by
        split
        · simp
        · omega
      rw [e]
      simp only [List.length_append, List.length_replicate, List.length_cons, List.length_nil]; omega
    | sset n' v hn =>
      cases hS
      have h1 := nm_le hn
      have h2 : (valS prL v).length ≤ 66 := val_len (hvals ([], v) (by simp [St.attrs])).1
      refine one _ ?_
      have e : stS prL d m (.mk 4 n [] [([], v)] []) = List.replicate m 32 ++ (wSet ++ 32 :: (n ++ 32 :: 61 :: 32 :: (valS prL v ++ [59, 10]))) := by simp [stS]
      have h3 : wSet.length = 3 := rfl
      rw [e]
      simp only [List.length_append, List.length_replicate, List.length_cons, List.length_nil]; omega
    | clus n' b' hn =>
      cases hS
      have h1 := nm_le hn
      have h2 := hb (m + 4) hbody ho.2
      have e : stS prL d m (.mk 5 n [] [] b) = List.replicate m 32 ++ (wClu ++ 32 :: (n ++ 32 :: 123 :: 10 :: (stL prL d (m + 4) b ++ (List.replicate m 32 ++ [125, 10])))) := by simp [stS]
      have h3 : wClu.length = 7 := rfl
      show _ ≤ (1 + cnt b) * (2 * (m + 4 * (1 + cnt b)) + 5000)
      rw [e, Nat.add_mul, Nat.one_mul]
      have h4 : 2 * (m + 4 + 4 * cnt b) + 5000 = 2 * (m + 4 * (1 + cnt b)) + 5000 := by omega
      rw [h4] at h2
      generalize cnt b * (2 * (m + 4 * (1 + cnt b)) + 5000) = P at h2 ⊢
      simp only [List.length_append, List.length_replicate, List.length_cons, List.length_nil]; omega
  · have h1 := hs m hv.cons.1 ⟨(okL_cons.1 ho).1, (okL_cons.1 ho).2.1⟩
    have h2 := ht m hv.cons.2 (okL_cons.1 ho).2.2
    rw [cnt_cons]
    have e : (stL prL d m (s :: t)).length = (stS prL d m s).length + (stL prL d m t).length := by simp [stL]
    rw [e, Nat.add_mul (1 + cnt s.body)]
    have h3 : (1 + cnt s.body) * (2 * (m + 4 * (1 + cnt s.body)) + 5000) ≤ (1 + cnt s.body) * (2 * (m + 4 * (1 + cnt s.body + cnt t)) + 5000) := Nat.mul_le_mul_left _ (by omega)
    have h4 : cnt t * (2 * (m + 4 * cnt t) + 5000) ≤ cnt t * (2 * (m + 4 * (1 + cnt s.body + cnt t)) + 5000) := Nat.mul_le_mul_left _ (by omega)
    omega
theorem txt_len {T : Tr} (h : validT T = 0) (hc : cnt T.body ≤ 60) (ho : okL T.body) : (txtT prL T).length ≤ 900000 := by
  have hv := (valid_iff T).1 h
  have h1 := nm_le hv.1
  have h2 := (st_len T.dir).2 T.body 4 ⟨0, hv.2.2⟩ ho
  have h3 : cnt T.body * (2 * (4 + 4 * cnt T.body) + 5000) ≤ 60 * (2 * (4 + 4 * 60) + 5000) := Nat.mul_le_mul hc (by omega)
  have h4 : (wDir T.dir).length ≤ 7 := by unfold wDir; split <;> simp
  unfold txtT
  simp only [List.length_append, List.length_cons, List.length_nil]; omega
theorem prt_len {T : Tr} (hc : cnt T.body ≤ 60) (ho : okL T.body) : (prtT prL T).length ≤ 900000 := by
  unfold prtT
  split
  · rename_i h; exact txt_len h hc ho
  · simp
end Go.Proofs.YtgccheiemnpaoaaGreatDoor.prt
