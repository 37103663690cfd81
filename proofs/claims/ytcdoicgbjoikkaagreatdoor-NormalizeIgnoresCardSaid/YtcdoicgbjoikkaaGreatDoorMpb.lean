/-
  The landed code's edges (layer 12) as plain functions: the table of ends, the edges of chains, at most one too many; and that all together is the graph that the reference builds. No function of the program is named here; no condition.
  The landed code's graph (layer 12) as a plain function, and that it is the reference's. No function of the program is named here; no condition.
  Sizes of what the landed code of layer 12 makes: how many nodes, clusters and chains, and that lists of accepted attributes are short. No function of the program is named here; no condition.
-/
import Derived.Test.YtcdoicgbjoikkaaGreatDoorMpa
namespace Go.Proofs.YtcdoicgbjoikkaaGreatDoor.nor
open lex tre att

/-- What a table of ends holds. -/
abbrev EnM := Pr → (Int × Int) × Bool
def em0 : EnM := fun _ => ((0, 0), false)
def putM (F : EnM) (k : Pr) (v : Int × Int) : EnM := fun x => if x = k then (v, true) else F x
def endP (v : Int) (nm : Nm) : List (Nm × Int) → Nat → EnM → EnM
  | [], _, F => F
  | p :: t, i, F => endP v nm t (i + 1) (putM F (nm, p.1) (v, i))
def endN : List gra.Nd → Nat → EnM → EnM
  | [], _, F => F
  | n :: t, v, F => endN t (v + 1) (endP v n.nm n.ps 0 (putM F (n.nm, []) (v, -1)))
theorem portI_cons (x : Nm × Int) (t : List (Nm × Int)) (n : Nm) (i : Nat) : portI (x :: t) n i = if x.1 = n then (i : Int) else portI t n (i + 1) := rfl
theorem portI_none {n : Nm} : ∀ {l : List (Nm × Int)} (i : Nat), n ∉ l.map (·.1) → portI l n i = -2
  | [], _, _ => rfl
  | x :: t, i, h => by
    unfold portI
    rw [List.map_cons, List.mem_cons, not_or] at h
    rw [if_neg (fun e => h.1 e.symm)]
    exact portI_none (i + 1) h.2
/-- Ports as a value of ports holds them. -/
def PsOk (l : List (Nm × Int)) : Prop := (l.map (·.1)).Nodup ∧ ∀ p ∈ l, p.1 ≠ []
theorem PsOk.tail {x : Nm × Int} {t : List (Nm × Int)} (h : PsOk (x :: t)) : PsOk t ∧ x.1 ∉ t.map (·.1) ∧ x.1 ≠ [] := by
  obtain ⟨h1, h2⟩ := h
  rw [List.map_cons, List.nodup_cons] at h1
  exact ⟨⟨h1.2, fun p hp => h2 p (List.mem_cons_of_mem _ hp)⟩, h1.1, h2 x (List.mem_cons_self ..)⟩
theorem endP_eq (v : Int) (nm : Nm) (x : Pr) : ∀ (l : List (Nm × Int)) (i : Nat) (F : EnM), PsOk l → endP v nm l i F x = if x.1 = nm ∧ portI l x.2 i ≠ -2 then ((v, portI l x.2 i), true) else F x
  | [], i, F, _ => by unfold endP portI; rw [if_neg (fun q => q.2 rfl)]
  | p :: t, i, F, h => by
    obtain ⟨h1, h2, h3⟩ := h.tail
    rw [portI_cons]
    unfold endP
    rw [endP_eq v nm x t (i + 1) _ h1]
    by_cases hn : x.1 = nm
    · by_cases hp : p.1 = x.2
      · rw [if_neg (fun q => q.2 (portI_none _ (hp ▸ h2))), if_pos hp, if_pos ⟨hn, by omega⟩]
        show (if x = (nm, p.1) then ((v, (i : Int)), true) else F x) = _
        rw [if_pos (by rw [← hn, hp])]
      · rw [if_neg hp]
        by_cases hq : portI t x.2 (i + 1) ≠ -2
        · rw [if_pos ⟨hn, hq⟩, if_pos ⟨hn, hq⟩]
        · rw [if_neg (fun q => hq q.2), if_neg (fun q => hq q.2)]
          exact if_neg (fun q => hp (by rw [q]))
    · rw [if_neg (fun q => hn q.1), if_neg (fun q => hn q.1)]
      exact if_neg (fun q => hn (by rw [q]))
/-- Nodes as the graph has them before it is looked at. -/
def NsOk (l : List gra.Nd) : Prop := (l.map (·.nm)).Nodup ∧ ∀ n ∈ l, PsOk n.ps
theorem findG_none {n : Nm} : ∀ {l : List gra.Nd} (i : Nat), n ∉ l.map (·.nm) → gra.findG l n i = -1
  | [], _, _ => rfl
  | x :: t, i, h => by
    unfold gra.findG
    rw [List.map_cons, List.mem_cons, not_or] at h
    rw [if_neg (fun e => h.1 e.symm)]
    exact findG_none (i + 1) h.2
theorem findG_ge (n : Nm) : ∀ (l : List gra.Nd) (i : Nat), gra.findG l n i = -1 ∨ (i : Int) ≤ gra.findG l n i
  | [], _ => Or.inl rfl
  | x :: t, i => by
    unfold gra.findG
    split
    · exact Or.inr (Int.le_refl _)
    · rcases findG_ge n t (i + 1) with h | h
      · exact Or.inl h
      · exact Or.inr (by omega)
/-- Where a ref leads, among nodes that are counted from i on. -/
def endA (l : List gra.Nd) (i : Nat) (x : Pr) : Option (Int × Int) :=
  if gra.findG l x.1 i < 0 then none else if portN (portsOf l (gra.findG l x.1 i - i)) x.2 = -2 then none else some (gra.findG l x.1 i, portN (portsOf l (gra.findG l x.1 i - i)) x.2)
theorem portsOf_zero (n : gra.Nd) (t : List gra.Nd) : portsOf (n :: t) 0 = n.ps := rfl
theorem portsOf_succ (n : gra.Nd) (t : List gra.Nd) (k : Nat) : portsOf (n :: t) ((k : Int) + 1) = portsOf t k := by
  unfold portsOf
  rw [show ((k : Int) + 1).toNat = k + 1 by omega, show ((k : Int)).toNat = k by omega, List.getElem?_cons_succ]
theorem endN_eq (x : Pr) : ∀ (l : List gra.Nd) (i : Nat) (F : EnM), NsOk l → endN l i F x = match endA l i x with | some v => (v, true) | none => F x
  | [], i, F, _ => rfl
  | n :: t, i, F, h => by
    obtain ⟨h1, h2⟩ := h
    rw [List.map_cons, List.nodup_cons] at h1
    unfold endN
    rw [endN_eq x t (i + 1) _ ⟨h1.2, fun m hm => h2 m (List.mem_cons_of_mem _ hm)⟩]
    by_cases hn : n.nm = x.1
    · have e0 : gra.findG (n :: t) x.1 i = (i : Int) := by unfold gra.findG; rw [if_pos hn]
      have e1 : endA t (i + 1) x = none := by
        unfold endA
        rw [findG_none (i + 1) (hn ▸ h1.1), if_pos (by omega)]
      rw [e1]
      unfold endA
      rw [e0, if_neg (by omega), show (i : Int) - i = 0 by omega, portsOf_zero]
      show endP (i : Int) n.nm n.ps 0 (putM F (n.nm, []) ((i : Int), -1)) x = _
      rw [endP_eq _ _ _ _ _ _ (h2 n (List.mem_cons_self ..))]
      unfold portN
      by_cases hx : x.2 = []
      · have hq : portI n.ps x.2 0 = -2 := portI_none 0 (fun q => by
          obtain ⟨p, hp, e⟩ := List.mem_map.1 q
          exact (h2 n (List.mem_cons_self ..)).2 p hp (e.trans hx))
        rw [if_neg (fun q => q.2 hq), if_pos hx, if_neg (by decide)]
        exact if_pos (by rw [hn, ← hx])
      · rw [if_neg hx]
        by_cases hq : portI n.ps x.2 0 = -2
        · rw [if_neg (fun q => q.2 hq), if_pos hq]
          exact if_neg (fun q => hx (by rw [q]))
        · rw [if_pos ⟨hn.symm, hq⟩, if_neg hq]
    · have e0 : gra.findG (n :: t) x.1 i = gra.findG t x.1 (i + 1) := by
        show (if n.nm = x.1 then _ else _) = _; rw [if_neg hn]
      have e2 : endA (n :: t) i x = endA t (i + 1) x := by
        unfold endA
        rw [e0]
        rcases findG_ge x.1 t (i + 1) with q | q
        · rw [q, if_pos (by omega), if_pos (by omega)]
        · have hq0 : ¬ gra.findG t x.1 (i + 1) < 0 := by omega
          rw [if_neg hq0, if_neg hq0]
          obtain ⟨k, hk⟩ : ∃ k : Nat, gra.findG t x.1 (i + 1) - ((i + 1 : Nat) : Int) = k := ⟨(gra.findG t x.1 (i + 1) - ((i + 1 : Nat) : Int)).toNat, by omega⟩
          rw [show gra.findG t x.1 (i + 1) - (i : Int) = (k : Int) + 1 by omega, portsOf_succ, hk]
      rw [e2]
      cases endA t (i + 1) x with
      | some v => rfl
      | none =>
        show endP (i : Int) n.nm n.ps 0 (putM F (n.nm, []) ((i : Int), -1)) x = F x
        rw [endP_eq _ _ _ _ _ _ (h2 n (List.mem_cons_self ..)), if_neg (fun q => hn q.1.symm)]
        exact if_neg (fun q => hn (by rw [q]))

/-! ### Edges -/
def edgC (F : EnM) (lb : Nm) (wt ln : Int) : List Pr → List gra.Ed → List gra.Ed × Bool
  | r :: q :: t, es => if (F r).2 = false ∨ (F q).2 = false then (es, false) else edgC F lb wt ln (q :: t) (if es.length ≤ 256 then es ++ [⟨(F r).1.1, (F q).1.1, (F r).1.2, (F q).1.2, lb, wt, ln⟩] else es)
  | _, es => (es, true)
/-- The edges of one chain. -/
def edcC (F : EnM) (c : List Pr × List Pr) (es : List gra.Ed) : List gra.Ed × Bool := edgC F (getL c.2 wLabel).1 (numL 2 c.2 wWeight) (numL 2 c.2 wLen) c.1 es
def addC (F : EnM) : List (List Pr × List Pr) → List gra.Ed → List gra.Ed × Bool
  | [], es => (es, true)
  | c :: t, es => if (edcC F c es).2 = false then ((edcC F c es).1, false) else addC F t (edcC F c es).1
theorem take_push (E : List gra.Ed) (x : gra.Ed) : (if (E.take 257).length ≤ 256 then E.take 257 ++ [x] else E.take 257) = (E ++ [x]).take 257 := by
  rw [List.length_take]
  by_cases h : min 257 E.length ≤ 256
  · rw [if_pos h, List.take_of_length_le (by omega), List.take_of_length_le (by rw [List.length_append]; simp; omega)]
  · rw [if_neg h, List.take_append_of_le_length (by omega)]
def badE (x : gra.Ed) : Bool := decide (x.fp = -2) || decide (x.tp = -2)
theorem edg_eq {ns : List gra.Nd} {F : EnM} (hF : ∀ x, F x = match endA ns 0 x with | some v => (v, true) | none => em0 x) (m : List Pr) : ∀ (l : List Pr) (E : List gra.Ed), (∀ r ∈ l, 0 ≤ gra.findG ns r.1 0) →
    (edgC F (getL m wLabel).1 (numL 2 m wWeight) (numL 2 m wLen) l (E.take 257)).2 = !((endsL (l.map fun r => gra.findG ns r.1 0) l m).map (finE ns)).any badE ∧
    ((edgC F (getL m wLabel).1 (numL 2 m wWeight) (numL 2 m wLen) l (E.take 257)).2 = true → (edgC F (getL m wLabel).1 (numL 2 m wWeight) (numL 2 m wLen) l (E.take 257)).1 = (E ++ (endsL (l.map fun r => gra.findG ns r.1 0) l m).map (finE ns)).take 257)
  | [], E, _ => ⟨rfl, fun _ => by simp [edgC, endsL]⟩
  | [r], E, _ => ⟨rfl, fun _ => by simp [edgC, endsL]⟩
  | r :: q :: t, E, h => by
    have hr := h r (List.mem_cons_self ..)
    have hq := h q (List.mem_cons_of_mem _ (List.mem_cons_self ..))
    have look : ∀ x : Pr, 0 ≤ gra.findG ns x.1 0 → F x = if portN (portsOf ns (gra.findG ns x.1 0)) x.2 = -2 then ((0, 0), false) else ((gra.findG ns x.1 0, portN (portsOf ns (gra.findG ns x.1 0)) x.2), true) := fun x hx => by
      rw [hF]
      unfold endA
      rw [if_neg (by omega), show gra.findG ns x.1 0 - ((0 : Nat) : Int) = gra.findG ns x.1 0 by omega]
      by_cases hp : portN (portsOf ns (gra.findG ns x.1 0)) x.2 = -2
      · rw [if_pos hp, if_pos hp]; rfl
      · rw [if_neg hp, if_neg hp]
    have key : (endsL ((r :: q :: t).map fun r => gra.findG ns r.1 0) (r :: q :: t) m).map (finE ns) = finE ns ⟨gra.findG ns r.1 0, gra.findG ns q.1 0, r.2, q.2, m⟩ :: (endsL ((q :: t).map fun r => gra.findG ns r.1 0) (q :: t) m).map (finE ns) := rfl
    rw [key, List.any_cons]
    have hb : badE (finE ns ⟨gra.findG ns r.1 0, gra.findG ns q.1 0, r.2, q.2, m⟩) = true ↔ (portN (portsOf ns (gra.findG ns r.1 0)) r.2 = -2 ∨ portN (portsOf ns (gra.findG ns q.1 0)) q.2 = -2) := by
      unfold badE finE
      simp
    have lr := look r hr
    have lq := look q hq
    unfold edgC
    by_cases hbad : badE (finE ns ⟨gra.findG ns r.1 0, gra.findG ns q.1 0, r.2, q.2, m⟩) = true
    · have hc : (F r).2 = false ∨ (F q).2 = false := by
        rcases hb.1 hbad with e | e
        · left; rw [lr, if_pos e]
        · right; rw [lq, if_pos e]
      rw [if_pos hc, hbad]
      exact ⟨rfl, fun e => absurd (show false = true from e) (by decide)⟩
    · have h1 : ¬ portN (portsOf ns (gra.findG ns r.1 0)) r.2 = -2 := fun e => hbad (hb.2 (Or.inl e))
      have h2 : ¬ portN (portsOf ns (gra.findG ns q.1 0)) q.2 = -2 := fun e => hbad (hb.2 (Or.inr e))
      rw [if_neg h1] at lr
      rw [if_neg h2] at lq
      have hc : ¬ ((F r).2 = false ∨ (F q).2 = false) := by rw [lr, lq]; simp
      rw [if_neg hc, take_push, lr, lq]
      have hbf : badE (finE ns ⟨gra.findG ns r.1 0, gra.findG ns q.1 0, r.2, q.2, m⟩) = false := by simpa using hbad
      rw [hbf, Bool.false_or]
      obtain ⟨q1, q2⟩ := edg_eq hF m (q :: t) (E ++ [⟨gra.findG ns r.1 0, gra.findG ns q.1 0, portN (portsOf ns (gra.findG ns r.1 0)) r.2, portN (portsOf ns (gra.findG ns q.1 0)) q.2, (getL m wLabel).1, numL 2 m wWeight, numL 2 m wLen⟩]) (fun x hx => h x (List.mem_cons_of_mem _ hx))
      refine ⟨q1, fun e => ?_⟩
      rw [q2 e, List.append_assoc]; rfl
theorem add_eq {ns : List gra.Nd} {F : EnM} (hF : ∀ x, F x = match endA ns 0 x with | some v => (v, true) | none => em0 x) : ∀ (ch : List (List Pr × List Pr)) (E : List gra.Ed), (∀ c ∈ ch, ∀ r ∈ c.1, 0 ≤ gra.findG ns r.1 0) →
    (addC F ch (E.take 257)).2 = !((ch.flatMap fun c => endsL (c.1.map fun r => gra.findG ns r.1 0) c.1 c.2).map (finE ns)).any badE ∧
    ((addC F ch (E.take 257)).2 = true → (addC F ch (E.take 257)).1 = (E ++ (ch.flatMap fun c => endsL (c.1.map fun r => gra.findG ns r.1 0) c.1 c.2).map (finE ns)).take 257)
  | [], E, _ => ⟨rfl, fun _ => by simp [addC]⟩
  | c :: t, E, h => by
    obtain ⟨q1, q2⟩ := edg_eq hF c.2 c.1 E (h c (List.mem_cons_self ..))
    rw [List.flatMap_cons, List.map_append, List.any_append]
    unfold addC
    unfold edcC
    cases hb : ((endsL (c.1.map fun r => gra.findG ns r.1 0) c.1 c.2).map (finE ns)).any badE with
    | true =>
      rw [hb, Bool.not_true] at q1
      rw [if_pos q1]
      exact ⟨rfl, fun e => absurd (show false = true from e) (by decide)⟩
    | false =>
      rw [hb, Bool.not_false] at q1
      rw [if_neg (by rw [q1]; decide), q2 q1, Bool.false_or]
      obtain ⟨r1, r2⟩ := add_eq hF t (E ++ (endsL (c.1.map fun r => gra.findG ns r.1 0) c.1 c.2).map (finE ns)) (fun x hx => h x (List.mem_cons_of_mem _ hx))
      exact ⟨r1, fun e => by rw [r2 e, List.append_assoc]⟩
end Go.Proofs.YtcdoicgbjoikkaaGreatDoor.nor
namespace Go.Proofs.YtcdoicgbjoikkaaGreatDoor.nor
open lex tre att

theorem parts_ok : ∀ (l : List (List UInt8)) (out : List (List UInt8 × Int)), PsOk out → PsOk (partsL l out).1
  | [], out, h => h
  | s :: t, out, h => by
    unfold partsL
    split
    · exact ⟨List.nodup_nil, fun p hp => by cases hp⟩
    rename_i h1
    split
    · exact ⟨List.nodup_nil, fun p hp => by cases hp⟩
    rename_i h2
    split
    · exact ⟨List.nodup_nil, fun p hp => by cases hp⟩
    refine parts_ok t _ ⟨?_, fun p hp => ?_⟩
    · rw [List.map_append, List.nodup_append]
      refine ⟨h.1, by simp, fun a ha b hb => ?_⟩
      simp only [List.map_cons, List.map_nil, List.mem_cons, List.not_mem_nil, or_false] at hb
      subst hb
      intro e
      subst e
      obtain ⟨p, hp, e⟩ := List.mem_map.1 ha
      exact h2 (List.any_eq_true.2 ⟨p, hp, decide_eq_true e⟩)
    · rcases List.mem_append.1 hp with hp | hp
      · exact h.2 p hp
      · rw [List.mem_singleton] at hp
        subst hp
        intro e
        refine h1 ?_
        have e' : (partL s).2.1 = [] := e
        unfold partL at e' ⊢
        split at e' <;> rename_i hg
        · simp
        · split at e' <;> rename_i hs
          · simp [hs]
          · split at e' <;> rename_i hn
            · simp [hs, hn]
            · exfalso
              have e2 : _ = ([] : List UInt8) := e'
              simp only at e2
              rw [e2] at hn
              exact hn (by decide)
theorem ports_ok (s : List UInt8) : PsOk (portsL s).1 := by
  unfold portsL
  split
  · exact ⟨List.nodup_nil, fun p hp => by cases hp⟩
  · exact parts_ok _ _ ⟨List.nodup_nil, fun p hp => by cases hp⟩
theorem fin_ps (x : Cl) (l : List Pr) : (finN x l).ps = (portsL (getL l wPorts).1).1 := by
  unfold finN
  by_cases h : (getL l wPorts).2 = true
  · rw [if_pos h]
  · have e : getL l wPorts = ([], false) := getL_none (by simpa using h)
    rw [if_neg h, e]; rfl
theorem zip_find (n : Nm) : ∀ (ns : List Cl) (ats : List (List Pr)) (i : Nat), ns.length = ats.length → gra.findG (List.zipWith finN ns ats) n i = nodeI ns n i
  | [], [], _, _ => rfl
  | x :: t, a :: u, i, h => by
    rw [List.zipWith_cons_cons]
    unfold gra.findG nodeI
    rw [zip_find n t u (i + 1) (by simpa using h)]
    rfl
theorem zip_nm : ∀ (ns : List Cl) (ats : List (List Pr)), ns.length = ats.length → (List.zipWith finN ns ats).map (·.nm) = ns.map (·.1)
  | [], [], _ => rfl
  | x :: t, a :: u, h => by
    rw [List.zipWith_cons_cons, List.map_cons, List.map_cons, zip_nm t u (by simpa using h)]; rfl
theorem zip_ok {ns : List Cl} {ats : List (List Pr)} (hl : ns.length = ats.length) (hn : (ns.map (·.1)).Nodup) : NsOk (List.zipWith finN ns ats) := by
  refine ⟨by rw [zip_nm _ _ hl]; exact hn, fun n h => ?_⟩
  obtain ⟨i, hi, e⟩ := List.getElem_of_mem h
  rw [List.getElem_zipWith] at e
  rw [← e, fin_ps]
  exact ports_ok _
theorem chg_len : ∀ (l : List (List Pr)) (i : Int) (m : List Pr), (chgA l i m).length = l.length
  | [], _, _ => rfl
  | a :: t, i, m => by unfold chgA; rw [List.length_cons, chg_len t, List.length_cons]
theorem mentC_len {c : Bs} (h : c.ns.length = c.ats.length) (n : Nm) (p : Pl) : (mentC c n p).ns.length = (mentC c n p).ats.length := by
  unfold mentC
  split
  · simp [h]
  · exact h
theorem refsC_len (p : Pl) : ∀ (l : List Pr) (c : Bs), c.ns.length = c.ats.length → (refsC l c p).1.ns.length = (refsC l c p).1.ats.length
  | [], _, h => h
  | r :: t, c, h => by
    unfold refsC
    split
    · exact h
    · exact refsC_len p t _ (mentC_len h _ _)
theorem blkC_len : (∀ x : St, ∀ (p : Pl) (c : Bs), c.ns.length = c.ats.length → (stmC x p c).1.ns.length = (stmC x p c).1.ats.length) ∧
    ∀ l : List St, ∀ (p : Pl) (c : Bs), c.ns.length = c.ats.length → (blkC l p c).1.ns.length = (blkC l p c).1.ats.length := by
  refine st_ind (fun k n r a b hb p c h => ?_) (fun p c h => ?_) (fun x t hx ht p c h => ?_)
  · by_cases h1 : k = 1
    · subst h1
      rw [stmC_1]
      split
      · exact h
      · show (mentC c n p).ns.length = (chgA _ _ _).length
        rw [chg_len]; exact mentC_len h _ _
    by_cases h2 : k = 2
    · subst h2
      rw [stmC_2]
      split
      · exact refsC_len p r c h
      · exact refsC_len p r c h
    by_cases h5 : k = 5
    · subst h5
      rw [stmC_5]
      split
      · exact h
      · exact hb _ _ h
    · rw [stmC_n h1 h2 h5]; exact h
  · rw [blkC_nil]; exact h
  · rw [blkC_cons]
    split
    · exact h
    · split
      · exact hx _ _ h
      · exact ht _ _ (hx _ _ h)
theorem addN_nodup {out : List Nm} (h : out.Nodup) (x : Nm) : (addN out x).Nodup := by
  unfold addN
  split
  · exact h
  · rename_i hn
    rw [List.nodup_append]
    refine ⟨h, by simp, fun a ha b hb => ?_⟩
    rw [List.mem_singleton] at hb
    subst hb
    intro e
    subst e
    exact hn (by simpa using ha)
theorem fold_nodup : ∀ (l out : List Nm), out.Nodup → (l.foldl addN out).Nodup
  | [], _, h => h
  | x :: t, _, h => fold_nodup t _ (addN_nodup h x)

/-! ### The graph -/
def bs0 : Bs := ⟨[], [], [], []⟩
theorem rel0 : Rel bs0 st0 := ⟨rfl, rfl, rfl, rfl, rfl, fun x hx => by cases hx⟩
/-- The nodes with all that their attributes say. -/
def ndC' (c : Bs) : List gra.Nd := List.zipWith finN c.ns c.ats
def finC (n : Nm) (d : Bool) (c : Bs) : gra.Gr := ⟨n, d, ndC' c, (addC (endN (ndC' c) 0 em0) c.ch []).1, c.cs⟩
def buildC (T : Tr) : gra.Gr × Int :=
  if validT T ≠ 0 then (emG, validT T)
  else if (blkC T.body pl0 bs0).2 ≠ 0 then (emG, (blkC T.body pl0 bs0).2)
  else if (addC (endN (ndC' (blkC T.body pl0 bs0).1) 0 em0) (blkC T.body pl0 bs0).1.ch []).2 = false then (emG, 5)
  else if gra.validE (finC T.name T.dir (blkC T.body pl0 bs0).1) ≠ 0 then (emG, gra.validE (finC T.name T.dir (blkC T.body pl0 bs0).1))
  else (finC T.name T.dir (blkC T.body pl0 bs0).1, 0)
theorem many_es (g : gra.Gr) (h : 256 < g.es.length) : gra.validE g = 2 := by unfold gra.validE; exact if_pos (Or.inr (Or.inl h))
theorem fin_eq {n : Nm} {d : Bool} {c : Bs} {s : Sta} (h : Rel c s) (hl : c.ns.length = c.ats.length) (hn : (c.ns.map (·.1)).Nodup) :
    (addC (endN (ndC' c) 0 em0) c.ch []).2 = !noPort (finG n d s) ∧ (noPort (finG n d s) = false → (finC n d c = finG n d s ∨ (256 < (finG n d s).es.length ∧ gra.validE (finC n d c) = 2))) := by
  have hk := zip_ok hl hn
  have hc : ∀ x ∈ c.ch, ∀ r ∈ x.1, 0 ≤ gra.findG (ndC' c) r.1 0 := fun x hx r hr => by unfold ndC'; rw [zip_find _ _ _ _ hl]; exact h.kn x hx r hr
  have key : (c.ch.flatMap fun x => endsL (x.1.map fun r => gra.findG (ndC' c) r.1 0) x.1 x.2) = s.en := by
    rw [h.en]
    unfold enF ndC'
    congr 1
    funext x
    congr 1
    exact List.map_congr_left fun r _ => zip_find _ _ _ _ hl
  obtain ⟨q1, q2⟩ := add_eq (fun x => endN_eq x (ndC' c) 0 em0 hk) c.ch [] hc
  rw [key, List.take_nil] at q1 q2
  have hz : List.zipWith finN s.ns s.ats = ndC' c := by unfold ndC'; rw [h.ns, h.ats]
  have hfin : finG n d s = ⟨n, d, ndC' c, s.en.map (finE (ndC' c)), c.cs⟩ := by unfold finG; rw [hz, h.cs]
  have hno : noPort (finG n d s) = (s.en.map (finE (ndC' c))).any badE := by rw [hfin]; rfl
  rw [hno]
  refine ⟨q1, fun hf => ?_⟩
  have hes := q2 (by rw [q1, hf]; rfl)
  rw [List.nil_append] at hes
  rw [hfin]
  by_cases hle : (s.en.map (finE (ndC' c))).length ≤ 256
  · left
    unfold finC
    rw [hes, List.take_of_length_le (by omega)]
  · right
    refine ⟨Nat.lt_of_not_le hle, many_es _ ?_⟩
    show 256 < (addC (endN (ndC' c) 0 em0) c.ch []).1.length
    rw [hes, List.length_take]; omega
/-- The landed code's graph is the reference's. -/
theorem build_eq (T : Tr) : buildC T = buildT T := by
  unfold buildC buildT
  by_cases hv : validT T ≠ 0
  · rw [if_pos hv, if_pos hv]
  rw [if_neg hv, if_neg hv]
  obtain ⟨q1, q2⟩ := blk_rel.2 T.body pl0 bs0 st0 rel0
  rw [q1]
  by_cases he : (blkS T.body pl0 st0).e ≠ 0
  · rw [if_pos he, if_pos he]
  rw [if_neg he, if_neg he]
  have he' : (blkS T.body pl0 st0).e = 0 := by simpa using he
  have hr := q2 he'
  have hl := blkC_len.2 T.body pl0 bs0 rfl
  have hv' : validT T = 0 := by simpa using hv
  have hn : ((blkC T.body pl0 bs0).1.ns.map (·.1)).Nodup := by
    rw [← hr.ns, (blk_names.2 T.body pl0 st0 0 ((valid_iff T).1 hv').2.2 he').1]
    exact fold_nodup _ _ List.nodup_nil
  obtain ⟨r1, r2⟩ := fin_eq (n := T.name) (d := T.dir) hr hl hn
  rw [r1]
  cases hb : noPort (finG T.name T.dir (blkS T.body pl0 st0)) with
  | true => rw [if_pos (show (!true) = false from rfl), if_pos rfl]
  | false =>
    rw [if_neg (show ¬ (!false) = false by decide), if_neg (show ¬ false = true by decide)]
    rcases r2 hb with e | ⟨e1, e2⟩
    · rw [e]
    · rw [e2, many_es _ e1]; rfl
end Go.Proofs.YtcdoicgbjoikkaaGreatDoor.nor
namespace Go.Proofs.YtcdoicgbjoikkaaGreatDoor.nor
open lex tre att

/-! ### Short lists of attributes -/
theorem mem_erase' {a x : Nm} : ∀ {l : List Nm}, x ∈ l → x ≠ a → x ∈ l.erase a
  | [], h, _ => by cases h
  | y :: t, h, hne => by
    rw [List.erase_cons]
    split
    · rename_i hy
      rcases List.mem_cons.1 h with rfl | h
      · exact absurd (by simpa using hy) hne
      · exact h
    · rcases List.mem_cons.1 h with rfl | h
      · exact List.mem_cons_self ..
      · exact List.mem_cons_of_mem _ (mem_erase' h hne)
theorem nodup_le : ∀ {l K : List Nm}, l.Nodup → (∀ x ∈ l, x ∈ K) → l.length ≤ K.length
  | [], _, _, _ => Nat.zero_le _
  | a :: t, K, h, hs => by
    rw [List.nodup_cons] at h
    have ha := hs a (List.mem_cons_self ..)
    have := nodup_le (K := K.erase a) h.2 (fun x hx => mem_erase' (hs x (List.mem_cons_of_mem _ hx)) (fun e => h.1 (e ▸ hx)))
    rw [List.length_erase_of_mem ha] at this
    have hp := List.length_pos_of_mem ha
    rw [List.length_cons]; omega
theorem asc_nodup : ∀ {l : List Pr}, Asc l → (l.map (·.1)).Nodup
  | [], _ => List.nodup_nil
  | x :: t, h => by
    rw [List.map_cons, List.nodup_cons]
    refine ⟨fun q => ?_, asc_nodup h.2⟩
    obtain ⟨y, hy, e⟩ := List.mem_map.1 q
    have := h.1 y hy
    rw [e] at this
    exact lt_irr _ this
def keysN : List Nm := [wLabel, wWidth, wHeight, wPorts, wWeight, wLen, wMode, wNodesep, wRanksep, wMargin, wRounds]
theorem check_key {k : Int} {a : Pr} (h : checkL k a = 0) : a.1 ∈ keysN := by
  unfold checkL at h
  split at h
  · exact absurd h (by decide)
  split at h
  · exact absurd h (by decide)
  rename_i h2
  unfold knownL ruN ruE ruS at h2
  unfold keysN
  simp only [List.mem_cons, List.not_mem_nil, or_false]
  repeat' (first | (split at h2))
  all_goals first | (exact absurd rfl h2) | simp_all
/-- Attributes that a merge left, all accepted. -/
def Ga (k : Int) (l : List Pr) : Prop := (∀ a ∈ l, checkL k a = 0) ∧ Asc l
theorem Ga.len {k : Int} {l : List Pr} (h : Ga k l) : l.length ≤ 11 := by
  have := nodup_le (asc_nodup h.2) (K := keysN) (fun x hx => by
    obtain ⟨a, ha, e⟩ := List.mem_map.1 hx
    exact e ▸ check_key (h.1 a ha))
  simpa [keysN] using this
theorem Ga.nil (k : Int) : Ga k [] := ⟨fun a h => (by cases h), trivial⟩
theorem firC_ok {k : Int} : ∀ {l : List Pr}, firC k l = 0 → ∀ a ∈ l, checkL k a = 0
  | [], _, a, h => by cases h
  | x :: t, h, a, ha => by
    unfold firC at h
    split at h
    · rename_i hne; exact absurd h hne
    · rename_i hne
      rcases List.mem_cons.1 ha with rfl | ha
      · simpa using hne
      · exact firC_ok h a ha
theorem Ga.merge {k : Int} {l m : List Pr} (h : Ga k l) (hm : firC k m = 0) : Ga k (mergeL l m) :=
  ⟨fun a ha => by
    rcases List.mem_append.1 (sort_mem _ a ha) with q | q
    · exact h.1 a q
    · exact firC_ok hm a q, merge_asc l m⟩

/-! ### Statements that may be read -/
/-- A statement that is valid at some level, of few refs. -/
def okS (s : St) : Prop := (∃ lv, staE s lv = 0) ∧ s.refs.length ≤ 40
def okB (l : List St) : Prop := ∀ y ∈ preL l 0, okS y.1
theorem okB_cons {x : St} {t : List St} (h : okB (x :: t)) : okS x ∧ okB x.body ∧ okB t := by
  unfold okB at h ⊢
  rw [preL_cons, preS_eq] at h
  refine ⟨h (x, 0) (by simp), fun y hy => ?_, fun y hy => h y (by simp [hy])⟩
  obtain ⟨lv, hlv⟩ := pre_mem.2 x.body 0 (if x.kind = 5 then (0 : Int) + 1 else 0) y hy
  exact h (y.1, lv) (by simp only [List.cons_append, List.mem_cons, List.mem_append]; exact Or.inr (Or.inl hlv))
theorem okB_of {T : Tr} (h : validT T = 0) (hr : okL T.body) : okB T.body := fun y hy => ⟨⟨y.2, ((valid_iff T).1 h).2.2 y hy⟩, (hr y hy).1⟩
theorem okB_at {l : List St} {i : Nat} (h : okB (l.drop i)) (hi : i < l.length) : okS l[i] ∧ okB l[i].body ∧ okB (l.drop (i + 1)) := by
  rw [List.drop_eq_getElem_cons hi] at h
  exact okB_cons h
theorem cnt_at {l : List St} {i : Nat} (hi : i < l.length) : cnt (l.drop i) = 1 + cnt l[i].body + cnt (l.drop (i + 1)) := by
  rw [List.drop_eq_getElem_cons hi, cnt_cons]
/-- How much is known. -/
def sz (s : Bs) : Nat := s.ns.length + s.cs.length + s.ch.length
theorem ment_sz (s : Bs) (n : Nm) (p : Pl) : sz (mentC s n p) ≤ sz s + 1 := by
  unfold mentC sz
  split
  · simp only [List.length_append, List.length_singleton]; omega
  · omega
theorem refs_sz (p : Pl) : ∀ (l : List Pr) (s : Bs), sz (refsC l s p).1 ≤ sz s + l.length
  | [], s => Nat.le_refl _
  | r :: t, s => by
    unfold refsC
    split
    · show sz s ≤ _; omega
    · have h1 := refs_sz p t (mentC s r.1 p)
      have h2 := ment_sz s r.1 p
      rw [List.length_cons]; omega
theorem blk_sz : (∀ x : St, ∀ (p : Pl) (s : Bs), okS x → okB x.body → sz (stmC x p s).1 ≤ sz s + 42 * (1 + cnt x.body)) ∧
    ∀ l : List St, ∀ (p : Pl) (s : Bs), okB l → sz (blkC l p s).1 ≤ sz s + 42 * cnt l := by
  refine st_ind (fun k n r a b hb p s ho hk => ?_) (fun p s _ => ?_) (fun x t hx ht p s ho => ?_)
  · have hr : r.length ≤ 40 := ho.2
    simp only [St.body] at hk ⊢
    by_cases h1 : k = 1
    · subst h1
      rw [stmC_1]
      split
      · show sz s ≤ _; omega
      · have := ment_sz s n p
        show sz (mentC s n p) ≤ _
        omega
    by_cases h2 : k = 2
    · subst h2
      rw [stmC_2]
      have := refs_sz p r s
      split
      · show sz (refsC r s p).1 ≤ _; omega
      · unfold sz at this ⊢
        simp only [List.length_append, List.length_singleton]; omega
    by_cases h5 : k = 5
    · subst h5
      rw [stmC_5]
      split
      · show sz s ≤ _; omega
      · have := hb ⟨s.cs.length, p.dn, p.de⟩ ⟨s.ns, s.ats, s.cs ++ [(n, p.cl)], s.ch⟩ hk
        have e : sz (⟨s.ns, s.ats, s.cs ++ [(n, p.cl)], s.ch⟩ : Bs) = sz s + 1 := by unfold sz; simp only [List.length_append, List.length_singleton]; omega
        omega
    · rw [stmC_n h1 h2 h5]; show sz s ≤ _; omega
  · rw [blkC_nil]; show sz s ≤ _; omega
  · obtain ⟨o1, o2, o3⟩ := okB_cons ho
    rw [blkC_cons, cnt_cons]
    have q1 := hx (dflt x.kind x.name x.attrs p) s o1 o2
    split
    · show sz s ≤ _; omega
    · split
      · show sz (stmC _ _ _).1 ≤ _; omega
      · have q2 := ht (dflt x.kind x.name x.attrs p) (stmC x (dflt x.kind x.name x.attrs p) s).1 o3
        omega
/-! ### What stays accepted -/
def GaP (p : Pl) : Prop := Ga 1 p.dn ∧ Ga 2 p.de
def GaS (s : Bs) : Prop := (∀ a ∈ s.ats, Ga 1 a) ∧ ∀ c ∈ s.ch, Ga 2 c.2
theorem GaP.dflt {p : Pl} (h : GaP p) {k : Int} {n : Nm} {a : List Pr} (he : stE k n a = 0) (hk : k = 3 → n = wNode ∨ n = wEdge) : GaP (dflt k n a p) := by
  unfold nor.dflt
  split
  · rename_i h3
    subst h3
    unfold stE at he
    rw [if_neg (by decide)] at he
    split
    · rename_i hn
      subst hn
      rw [if_neg (fun q => q.elim (fun e => absurd e (by decide)) (fun e => absurd e.2 (by decide)))] at he
      exact ⟨h.1.merge he, h.2⟩
    · rename_i hn
      have hw : n = wEdge := (hk rfl).resolve_left hn
      rw [if_pos (Or.inr ⟨rfl, hw⟩)] at he
      exact ⟨h.1, h.2.merge he⟩
  · exact h
theorem GaS.ment {s : Bs} {p : Pl} (h : GaS s) (hp : GaP p) (n : Nm) : GaS (mentC s n p) := by
  unfold mentC
  split
  · refine ⟨fun a ha => ?_, h.2⟩
    rcases List.mem_append.1 ha with q | q
    · exact h.1 a q
    · rw [List.mem_singleton] at q; subst q; exact hp.1
  · exact h
theorem GaS.refs {p : Pl} (hp : GaP p) : ∀ (l : List Pr) (s : Bs), GaS s → GaS (refsC l s p).1
  | [], _, h => h
  | r :: t, s, h => by
    unfold refsC
    split
    · exact h
    · exact GaS.refs hp t _ (h.ment hp _)
theorem chg_mem (m : List Pr) : ∀ (l : List (List Pr)) (i : Int), ∀ a ∈ chgA l i m, a ∈ l ∨ ∃ b ∈ l, a = mergeL b m
  | [], _, a, h => by cases h
  | b :: t, i, a, h => by
    unfold chgA at h
    rcases List.mem_cons.1 h with e | h
    · split at e
      · exact Or.inr ⟨b, List.mem_cons_self .., e⟩
      · exact Or.inl (e ▸ List.mem_cons_self ..)
    · rcases chg_mem m t (i - 1) a h with q | ⟨c, hc, e⟩
      · exact Or.inl (List.mem_cons_of_mem _ q)
      · exact Or.inr ⟨c, List.mem_cons_of_mem _ hc, e⟩
theorem GaS.chg {s : Bs} (h : GaS s) (i : Int) {m : List Pr} (hm : firC 1 m = 0) : GaS ⟨s.ns, chgA s.ats i m, s.cs, s.ch⟩ :=
  ⟨fun a ha => by
    rcases chg_mem m s.ats i a ha with q | ⟨b, hb, rfl⟩
    · exact h.1 a q
    · exact (h.1 b hb).merge hm, h.2⟩
theorem stE_1 {n : Nm} {a : List Pr} (h : stE 1 n a = 0) : firC 1 a = 0 := by
  unfold stE at h; rw [if_neg (by decide), if_neg (fun q => q.elim (fun e => absurd e (by decide)) (fun e => absurd e.1 (by decide)))] at h; exact h
theorem stE_2 {n : Nm} {a : List Pr} (h : stE 2 n a = 0) : firC 2 a = 0 := by
  unfold stE at h; rw [if_neg (by decide), if_pos (Or.inl rfl)] at h; exact h
theorem sta_kind3 {s : St} (h : okS s) (hk : s.kind = 3) : s.name = wNode ∨ s.name = wEdge := by
  obtain ⟨⟨lv, h⟩, -⟩ := h
  unfold staE at h
  split at h
  · rename_i hne; exact absurd h hne
  rename_i hf
  have hf0 : fldE s = 0 := by simpa using hf
  unfold fldE at hf0
  split at hf0
  · exact absurd hf0 (by decide)
  split at hf0
  · exact absurd hf0 (by decide)
  split at hf0
  · exact absurd hf0 (by decide)
  rename_i q
  by_cases h1 : s.name = wNode
  · exact Or.inl h1
  · by_cases h2 : s.name = wEdge
    · exact Or.inr h2
    · exact absurd (Or.inl ⟨hk, h1, h2⟩) q
theorem GaS.chain {s : Bs} (h : GaS s) {r a : List Pr} {p : Pl} (hp : GaP p) (ha : firC 2 a = 0) : GaS ⟨s.ns, s.ats, s.cs, s.ch ++ [(r, mergeL p.de a)]⟩ :=
  ⟨h.1, fun c hc => by
    rcases List.mem_append.1 hc with q | q
    · exact h.2 c q
    · rw [List.mem_singleton] at q; subst q; exact hp.2.merge ha⟩
theorem blk_Ga : (∀ x : St, ∀ (p : Pl) (s : Bs), okS x → okB x.body → stE x.kind x.name x.attrs = 0 → GaP p → GaS s → GaS (stmC x p s).1) ∧
    ∀ l : List St, ∀ (p : Pl) (s : Bs), okB l → GaP p → GaS s → GaS (blkC l p s).1 := by
  refine st_ind (fun k n r a b hb p s ho hk he hp hs => ?_) (fun p s _ _ hs => ?_) (fun x t hx ht p s ho hp hs => ?_)
  · simp only [St.body, St.kind, St.name, St.attrs] at hk he
    by_cases h1 : k = 1
    · subst h1
      rw [stmC_1]
      split
      · exact hs
      · exact (hs.ment hp n).chg _ (stE_1 he)
    by_cases h2 : k = 2
    · subst h2
      rw [stmC_2]
      split
      · exact GaS.refs hp r s hs
      · exact (GaS.refs hp r s hs).chain hp (stE_2 he)
    by_cases h5 : k = 5
    · subst h5
      rw [stmC_5]
      split
      · exact hs
      · exact hb _ _ hk ⟨hp.1, hp.2⟩ ⟨hs.1, hs.2⟩
    · rw [stmC_n h1 h2 h5]; exact hs
  · rw [blkC_nil]; exact hs
  · obtain ⟨o1, o2, o3⟩ := okB_cons ho
    rw [blkC_cons]
    split
    · exact hs
    · rename_i he
      have he' : stE x.kind x.name x.attrs = 0 := by simpa using he
      have hp' := hp.dflt he' (sta_kind3 o1)
      have q := hx _ s o1 o2 he' hp' hs
      split
      · exact q
      · exact ht _ _ o3 hp' q
theorem firC_drop' {k : Int} {l : List Pr} {i : Nat} (h : i < l.length) : firC k (l.drop i) = if checkL k l[i] ≠ 0 then checkL k l[i] else firC k (l.drop (i + 1)) := by
  rw [List.drop_eq_getElem_cons h, firC]
theorem blkC_drop {l : List St} {i : Nat} (hi : i < l.length) (p : Pl) (s : Bs) : blkC (l.drop i) p s = if stE l[i].kind l[i].name l[i].attrs ≠ 0 then (s, stE l[i].kind l[i].name l[i].attrs) else if (stmC l[i] (dflt l[i].kind l[i].name l[i].attrs p) s).2 ≠ 0 then ((stmC l[i] (dflt l[i].kind l[i].name l[i].attrs p) s).1, (stmC l[i] (dflt l[i].kind l[i].name l[i].attrs p) s).2) else blkC (l.drop (i + 1)) (dflt l[i].kind l[i].name l[i].attrs p) (stmC l[i] (dflt l[i].kind l[i].name l[i].attrs p) s).1 := by
  rw [List.drop_eq_getElem_cons hi, blkC_cons]
end Go.Proofs.YtcdoicgbjoikkaaGreatDoor.nor
