/-
  The machine of the reference of layer 12 in memory: its box, its rows, what its calls leave alone. No condition.
  The landed code's builder in memory (layer 12): its box, its rows, its two maps, what its calls leave alone. No condition.
-/
import Derived.Test.YtcdoicgbjoikkaaGreatDoorMpa
import Derived.Test.YtcdoicgbjoikkaaGreatDoorMcb
import Derived.Test.YtcdoicgbjoikkaaGreatDoorMpb
import Derived.Test.YtcdoicgbjoikkaaGreatDoorMce
namespace Go.Proofs.YtcdoicgbjoikkaaGreatDoor.nor
open Go.RowKit lex tre att

/-! ### What the machine's calls leave alone -/
theorem heap_lt {w : World} {k : Nat} {o : Obj} (h : w.heap[k]? = some o) : k < w.heap.size := by
  rcases Nat.lt_or_ge k w.heap.size with q | q
  · exact q
  · rw [Array.getElem?_eq_none (by omega)] at h; cases h
/-! ### The box -/
theorem blk_set {W : World} {b o : Nat} {t : TypeId} {arr : Array Value} (h : blk W b t arr) (u : Value) : blk (W.setCell ⟨b, o, none⟩ u) b t (arr.setIfInBounds o u) := by
  unfold blk at *
  simp only [World.setCell, Array.getElem?_modify, h]
  simp
/-! ### The rows -/
/-- A node that was mentioned, before it is finished. -/
def ndC (x : Cl) : List Value := [.string (bb x.1), .string ⟨#[]⟩, .int .i64 0, .int .i64 0, .int .i64 x.2, .slice none 0 0]
def clC (x : Cl) : List Value := [.string (bb x.1), .int .i64 x.2]
def vC (v : Value) : List Value := [v]
abbrev Nrow (W : World) (B : Nat) (v : Value) (l : List Cl) : Prop := W.ownsRow B 45 6 v l.length (l.flatMap ndC)
abbrev Crow (W : World) (B : Nat) (v : Value) (l : List Cl) : Prop := W.ownsRow B 47 2 v l.length (l.flatMap clC)
abbrev Arow (W : World) (B : Nat) (v : Value) (l : List Value) : Prop := W.ownsRow B 54 1 v l.length (l.flatMap vC)
/-- A row of another type is not touched. -/
theorem row_far {W W' : World} {B c n g : Nat} {t u : TypeId} {v : Value} {xs : List Value} {arr : Array Value} {fr : Nat × Nat} (h : W.ownsRow B t c v n xs) (hg : W.heap[g]? = some (.cells arr u fr)) (hu : t ≠ u) (hf : ∀ q, q < W.heap.size → q ≠ g → W'.heap[q]? = W.heap[q]?) : W'.ownsRow B t c v n xs := by
  refine ⟨h.1, ?_⟩
  rcases h.2 with ⟨a, b⟩ | ⟨k, cap, cur, rfl, h1, h2, h3⟩
  · exact Or.inl ⟨a, b⟩
  · have hne : k ≠ g := by
      intro e
      subst e
      rw [h2] at hg
      cases hg
      exact hu rfl
    exact Or.inr ⟨k, cap, cur, rfl, h1, by rw [hf k (heap_lt h2) hne]; exact h2, h3⟩
theorem row_set {W : World} {B c n g o : Nat} {t u : TypeId} {v : Value} {xs : List Value} {arr : Array Value} (h : W.ownsRow B t c v n xs) (hg : blk W g u arr) (hu : t ≠ u) (y : Value) : (W.setCell ⟨g, o, none⟩ y).ownsRow B t c v n xs :=
  row_far h hg hu fun _ _ hne => Below.heap_setCell _ _ _ _ hne
theorem row_below {W W' : World} {B c n : Nat} {t : TypeId} {v : Value} {xs : List Value} (h : W.ownsRow B t c v n xs) (hb : Below W.heap.size W W') : W'.ownsRow B t c v n xs := by
  refine ⟨h.1, ?_⟩
  rcases h.2 with ⟨a, b⟩ | ⟨k, cap, cur, rfl, h1, h2, h3⟩
  · exact Or.inl ⟨a, b⟩
  · exact Or.inr ⟨k, cap, cur, rfl, h1, by rw [hb.block k (heap_lt h2)]; exact h2, h3⟩
/-- A row of another type than the one that grew. -/
theorem row_grown {W W' : World} {B B' c c' n n' : Nat} {t u : TypeId} {v v' : Value} {xs ys : List Value} (h : W.ownsRow B t c v n xs) (hg : W.ownsRow B' u c' v' n' ys) (hw : W.grownBy W' v'.ownBlock) (hu : t ≠ u) : W'.ownsRow B t c v n xs := by
  refine ⟨h.1, ?_⟩
  rcases h.2 with ⟨a, b⟩ | ⟨k, cap, cur, rfl, h1, h2, h3⟩
  · exact Or.inl ⟨a, b⟩
  · refine Or.inr ⟨k, cap, cur, rfl, h1, ?_, h3⟩
    rw [hw.block k (heap_lt h2) ?_]
    · exact h2
    · intro e
      rcases hg.2 with ⟨rfl, _⟩ | ⟨k', cap', cur', rfl, _, h2', _⟩
      · cases e
      · obtain rfl : k = k' := Option.some.inj e
        rw [h2] at h2'
        cases h2'
        exact hu rfl
theorem blk_grown {W W' : World} {B' c' n' g : Nat} {t u : TypeId} {v' : Value} {ys : List Value} {arr : Array Value} (h : blk W g t arr) (hg : W.ownsRow B' u c' v' n' ys) (hw : W.grownBy W' v'.ownBlock) (hu : t ≠ u) : blk W' g t arr := by
  unfold blk
  rw [hw.block g (heap_lt h) ?_]
  · exact h
  · intro e
    rcases hg.2 with ⟨rfl, _⟩ | ⟨k', cap', cur', rfl, _, h2', _⟩
    · cases e
    · obtain rfl : g = k' := Option.some.inj e
      rw [h] at h2'
      cases h2'
      exact hu rfl
theorem below_row {W W' : World} {B c n : Nat} {t : TypeId} {v : Value} {xs : List Value} (h : W.ownsRow B t c v n xs) (hw : W.grownBy W' v.ownBlock) (hB : B ≤ W.heap.size) : Below B W W' :=
  (Below.refl B W).grown hw hB fun k hk => (World.ownsRow.lt h k hk).1
end Go.Proofs.YtcdoicgbjoikkaaGreatDoor.nor
namespace Go.Proofs.YtcdoicgbjoikkaaGreatDoor.nor
open Go.RowKit lex tre att

theorem bb_back (l : List UInt8) : (bb l).data.toList = l := rfl
/-- The types whose blocks the builder's calls may write. -/
def hotC (t : TypeId) : Bool := t == 45 || t == 47 || t == 54 || t == 115 || t == 67 || t == 60
def coldC : Obj → Prop
  | .cells _ t _ => hotC t = false
  | _ => False
structure TFc (w w' : World) : Prop where
  os : w'.os = w.os
  tape : w'.tape = w.tape
  output : w'.output = w.output
  size : w.heap.size ≤ w'.heap.size
  block : ∀ (k : Nat) (o : Obj), w.heap[k]? = some o → coldC o → w'.heap[k]? = some o
theorem TFc.refl (w : World) : TFc w w := ⟨rfl, rfl, rfl, Nat.le_refl _, fun _ _ h _ => h⟩
theorem TFc.trans {a b c : World} (h : TFc a b) (k : TFc b c) : TFc a c :=
  ⟨k.os.trans h.os, k.tape.trans h.tape, k.output.trans h.output, Nat.le_trans h.size k.size, fun i o hi ho => k.block i o (h.block i o hi ho) ho⟩
theorem TFc.below {w w' : World} (h : Below w.heap.size w w') : TFc w w' := ⟨h.os, h.tape, h.output, h.size, fun k o hk _ => by rw [h.block k (heap_lt hk)]; exact hk⟩
theorem TFc.grown {w w' : World} {row : Option Nat} (h : w.grownBy w' row) (hr : ∀ g, row = some g → ∃ o, w.heap[g]? = some o ∧ ¬ coldC o) : TFc w w' := by
  refine ⟨h.os, h.tape, h.output, h.size, fun k o hk hc => ?_⟩
  by_cases e : some k = row
  · obtain ⟨o', h1, h2⟩ := hr k e.symm
    rw [hk] at h1
    cases h1
    exact absurd hc h2
  · rw [h.block k (heap_lt hk) e]; exact hk
theorem hot_not {arr : Array Value} {t : TypeId} {fr : Nat × Nat} (h : hotC t = true) : ¬ coldC (.cells arr t fr) := fun q => by
  have : hotC t = false := q
  rw [h] at this; cases this
theorem TFc.set {w : World} {b o : Nat} {t : TypeId} {arr : Array Value} (hb : blk w b t arr) (ht : hotC t = true) (u : Value) : TFc w (w.setCell ⟨b, o, none⟩ u) := by
  refine ⟨rfl, rfl, rfl, by simp [World.setCell], fun k x hk hc => ?_⟩
  by_cases e : k = b
  · subst e
    rw [hb] at hk
    cases hk
    exact absurd hc (hot_not ht)
  · rw [Below.heap_setCell _ _ _ _ e]; exact hk
theorem TFc.alloc (w : World) (o : Obj) : TFc w (w.alloc o) := TFc.below ⟨rfl, rfl, rfl, by simp, fun k hk => Below.heap_alloc _ _ _ hk⟩
/-- A block of a cold type is as it was. -/
theorem TFc.blk {w w' : World} (h : TFc w w') {g : Nat} {t : TypeId} {arr : Array Value} (hb : blk w g t arr) (ht : hotC t = false) : blk w' g t arr := h.block g _ hb ht
theorem TFc.prs {w w' : World} (h : TFc w w') {v : Value} {l : List Pr} (hp : PrsT w v l) : PrsT w' v l := by
  obtain ⟨⟨ao, cap, rfl, hc, hm, hA⟩, hT⟩ := hp
  refine ⟨⟨ao, cap, rfl, hc, hm, fun hn => ?_⟩, fun g hg => ?_⟩
  · obtain ⟨A, rfl, h2⟩ := hA hn
    obtain ⟨arr, fr, hk⟩ := hT A.block rfl
    have e : w'.heap[A.block]? = w.heap[A.block]? := by rw [h.block _ _ hk (by rfl), hk]
    refine ⟨A, rfl, fun i hi => ?_⟩
    obtain ⟨a1, a2, a3⟩ := h2 i hi
    have eb : (A.add (i * 2)).block = A.block := by unfold Addr.add; split <;> rfl
    have e1 : w'.heap[(A.add (i * 2)).block]? = w.heap[(A.add (i * 2)).block]? := by rw [eb]; exact e
    exact ⟨(World.cell?_of_block (a := A.add (i * 2)) e1).trans a1, (World.cell?_of_block (a := ⟨(A.add (i * 2)).block, (A.add (i * 2)).off + 1, none⟩) e1).trans a2, a3⟩
  · obtain ⟨arr, fr, hk⟩ := hT g hg
    exact ⟨arr, fr, h.block _ _ hk (by rfl)⟩
theorem tfc_row {W W' : World} {B c n : Nat} {t : TypeId} {v : Value} {xs : List Value} (h : W.ownsRow B t c v n xs) (hw : W.grownBy W' v.ownBlock) (ht : hotC t = true) : TFc W W' := by
  refine TFc.grown hw fun g hg => ?_
  rcases h.2 with ⟨rfl, _⟩ | ⟨k, cap, cur, rfl, _, h2, _⟩
  · cases hg
  · obtain rfl : k = g := Option.some.inj hg
    exact ⟨_, h2, hot_not ht⟩

/-! ### The box -/
/-- The builder's nine cells. -/
def bdb (W : World) (b : Nat) (nm : Nm) (d : Bool) (nv ev cv av : Value) (mb kb : Nat) (hv : Value) : Prop :=
  blk W b 67 #[.string (bb nm), .bool d, nv, ev, cv, av, .map (some mb), .map (some kb), hv]
/-- What is read of it. -/
def bdc (W : World) (b : Nat) (nv cv av : Value) (mb kb : Nat) (hv : Value) : Prop :=
  W.cell? ⟨b, 2, none⟩ = some nv ∧ W.cell? ⟨b, 4, none⟩ = some cv ∧ W.cell? ⟨b, 5, none⟩ = some av ∧ W.cell? ⟨b, 6, none⟩ = some (.map (some mb)) ∧ W.cell? ⟨b, 7, none⟩ = some (.map (some kb)) ∧ W.cell? ⟨b, 8, none⟩ = some hv
section
variable {W : World} {b : Nat} {nm : Nm} {d : Bool} {nv ev cv av hv : Value} {mb kb : Nat}
theorem bdb.read (h : bdb W b nm d nv ev cv av mb kb hv) : bdc W b nv cv av mb kb hv :=
  ⟨by rw [blk_cell h]; rfl, by rw [blk_cell h]; rfl, by rw [blk_cell h]; rfl, by rw [blk_cell h]; rfl, by rw [blk_cell h]; rfl, by rw [blk_cell h]; rfl⟩
theorem bdb.open (h : bdb W b nm d nv ev cv av mb kb hv) (o : Nat) : W.frozen? ⟨b, o, none⟩ = false := by
  unfold bdb att.blk at h; simp [World.frozen?, h]
theorem bdb.set2 (h : bdb W b nm d nv ev cv av mb kb hv) (u : Value) : bdb (W.setCell ⟨b, 2, none⟩ u) b nm d u ev cv av mb kb hv := blk_set h u
theorem bdb.set3 (h : bdb W b nm d nv ev cv av mb kb hv) (u : Value) : bdb (W.setCell ⟨b, 3, none⟩ u) b nm d nv u cv av mb kb hv := blk_set h u
theorem bdb.set4 (h : bdb W b nm d nv ev cv av mb kb hv) (u : Value) : bdb (W.setCell ⟨b, 4, none⟩ u) b nm d nv ev u av mb kb hv := blk_set h u
theorem bdb.set5 (h : bdb W b nm d nv ev cv av mb kb hv) (u : Value) : bdb (W.setCell ⟨b, 5, none⟩ u) b nm d nv ev cv u mb kb hv := blk_set h u
theorem bdb.set8 (h : bdb W b nm d nv ev cv av mb kb hv) (u : Value) : bdb (W.setCell ⟨b, 8, none⟩ u) b nm d nv ev cv av mb kb u := blk_set h u
end

/-! ### The maps -/
/-- What the map of nodes holds. -/
def nmF (ns : List Cl) : List UInt8 → Value × Bool := fun y => (.int .i64 (if 0 ≤ nodeI ns y 0 then nodeI ns y 0 else 0), decide (0 ≤ nodeI ns y 0))
/-- What the map of clusters holds. -/
def kmF (cs : List Cl) : List UInt8 → Value × Bool := fun y => (.bool (clusd cs y), clusd cs y)
theorem nmF_grow {ns : List Cl} {n : Nm} {c : Int} (h : nodeI ns n 0 < 0) : (fun x => if x = n then (Value.int .i64 (ns.length : Int), true) else nmF ns x) = nmF (ns ++ [(n, c)]) := by
  funext x
  unfold nmF
  rw [nodeI_app, Nat.zero_add]
  by_cases hx : x = n
  · subst hx
    rw [if_pos rfl, if_neg (by omega : ¬ 0 ≤ nodeI ns x 0), if_pos rfl, if_pos (by omega), decide_eq_true (by omega : (0 : Int) ≤ (ns.length : Int))]
  · rw [if_neg hx, if_neg (fun e : n = x => hx e.symm)]
    by_cases h0 : 0 ≤ nodeI ns x 0
    · rw [if_pos h0, if_pos h0]
      rw [if_pos h0, decide_eq_true h0]
    · rw [if_neg h0, if_neg h0]
      rw [if_neg (by decide), decide_eq_false h0]; rfl
theorem kmF_grow (cs : List Cl) (n : Nm) (c : Int) : (fun x => if x = n then (Value.bool true, true) else kmF cs x) = kmF (cs ++ [(n, c)]) := by
  funext x
  unfold kmF
  have e : clusd (cs ++ [(n, c)]) x = (clusd cs x || n == x) := by unfold clusd; rw [List.any_append]; simp
  rw [e]
  by_cases hx : x = n
  · subst hx; simp
  · rw [if_neg hx]
    have : (n == x) = false := by simp; exact fun e => hx e.symm
    rw [this, Bool.or_false]
def NMap (W : World) (b : Nat) (ns : List Cl) : Prop := ∃ D, mAt (.int .i64 0) W b ns.length D (nmF ns)
def KMap (W : World) (b : Nat) (cs : List Cl) : Prop := ∃ D, mAt (.bool false) W b cs.length D (kmF cs)
theorem NMap.kept {W W' : World} {b : Nat} {ns : List Cl} {row : Option Nat} (h : NMap W b ns) (hg : W.grownBy W' row) (hne : some b ≠ row) : NMap W' b ns := by obtain ⟨D, h⟩ := h; exact ⟨D, h.kept hg hne⟩
theorem KMap.kept {W W' : World} {b : Nat} {cs : List Cl} {row : Option Nat} (h : KMap W b cs) (hg : W.grownBy W' row) (hne : some b ≠ row) : KMap W' b cs := by obtain ⟨D, h⟩ := h; exact ⟨D, h.kept hg hne⟩
theorem NMap.map {W : World} {b : Nat} {ns : List Cl} (h : NMap W b ns) : ∃ es c, W.heap[b]? = some (.map es c) := by obtain ⟨D, h⟩ := h; obtain ⟨es, c, hb, _⟩ := h.1; exact ⟨es, c, hb⟩
theorem KMap.map {W : World} {b : Nat} {cs : List Cl} (h : KMap W b cs) : ∃ es c, W.heap[b]? = some (.map es c) := by obtain ⟨D, h⟩ := h; obtain ⟨es, c, hb, _⟩ := h.1; exact ⟨es, c, hb⟩
theorem grown_set (W : World) (b o : Nat) (u : Value) : W.grownBy (W.setCell ⟨b, o, none⟩ u) (some b) :=
  ⟨rfl, rfl, rfl, by simp [World.setCell], fun k _ hne => Below.heap_setCell _ _ _ _ (fun e => hne (by rw [e]))⟩
/-- A map is no block of cells. -/
theorem map_ne {W : World} {b g : Nat} {t : TypeId} {arr : Array Value} {fr : Nat × Nat} (h : ∃ es c, W.heap[b]? = some (.map es c)) (hg : W.heap[g]? = some (.cells arr t fr)) : b ≠ g := fun e => by
  subst e
  obtain ⟨es, c, h⟩ := h
  rw [h] at hg; cases hg
theorem map_row {W : World} {b B c n : Nat} {t : TypeId} {v : Value} {xs : List Value} (h : ∃ es c, W.heap[b]? = some (.map es c)) (hr : W.ownsRow B t c v n xs) : some b ≠ v.ownBlock := fun e => by
  rcases hr.2 with ⟨rfl, _⟩ | ⟨k, cap, cur, rfl, _, h2, _⟩
  · cases e
  · obtain rfl : b = k := Option.some.inj e
    exact map_ne h h2 rfl

/-! ### The rows -/
def chC (x : Value × Value) : List Value := [x.1, x.2]
abbrev Hrow (W : World) (B : Nat) (v : Value) (l : List (Value × Value)) : Prop := W.ownsRow B 115 2 v l.length (l.flatMap chC)
/-- The values that the builder holds. -/
structure BdV where
  nv : Value
  cv : Value
  av : Value
  hv : Value
  mb : Nat
  kb : Nat
  avs : List Value
  hvs : List (Value × Value)
/-- What the builder's rows and maps hold: ns and cs in rows, ms and ks in the maps. -/
structure Bg where
  ns : List Cl
  ms : List Cl
  cs : List Cl
  ks : List Cl
  ats : List (List Pr)
  ch : List (List Pr × List Pr)
def Bs.g (s : Bs) : Bg := ⟨s.ns, s.ns, s.cs, s.cs, s.ats, s.ch⟩
/-- The builder in memory; w0 is the world in which the tree lies. -/
structure BdG (w0 W : World) (b : Nat) (nm : Nm) (d : Bool) (s : Bg) (x : BdV) : Prop where
  low : w0.heap.size ≤ b
  old : Below w0.heap.size w0 W
  box : bdb W b nm d x.nv (.slice none 0 0) x.cv x.av x.mb x.kb x.hv
  nr : Nrow W w0.heap.size x.nv s.ns
  cr : Crow W w0.heap.size x.cv s.cs
  ar : Arow W w0.heap.size x.av x.avs
  hr : Hrow W w0.heap.size x.hv x.hvs
  al : x.avs.length = s.ats.length
  ap : ∀ i (h : i < x.avs.length) (h' : i < s.ats.length), PrsT W x.avs[i] s.ats[i]
  hl : x.hvs.length = s.ch.length
  hp : ∀ i (h : i < x.hvs.length) (h' : i < s.ch.length), Prs w0 x.hvs[i].1 s.ch[i].1 ∧ PrsT W x.hvs[i].2 s.ch[i].2
  mm : NMap W x.mb s.ms
  km : KMap W x.kb s.ks
  ml : w0.heap.size ≤ x.mb
  kl : w0.heap.size ≤ x.kb
  ne : x.mb ≠ x.kb
/-- A step of the builder. -/
structure Stp (w0 W w1 : World) : Prop where
  frm : TFc W w1
  bel : Below w0.heap.size W w1
section
variable {w0 W W' Wd w1 : World} {b : Nat} {nm : Nm} {d : Bool} {s : Bg} {x : BdV}
theorem BdG.lt (h : BdG w0 W b nm d s x) : b < W.heap.size := heap_lt h.box
theorem BdG.base (h : BdG w0 W b nm d s x) : w0.heap.size ≤ W.heap.size := h.old.size
theorem grown_below (hb : Below W.heap.size W W') : W.grownBy W' none := ⟨hb.os, hb.tape, hb.output, hb.size, fun k hk _ => hb.block k hk⟩
theorem Stp.refl (w0 W : World) : Stp w0 W W := ⟨TFc.refl W, Below.refl _ W⟩
theorem Stp.trans {w2 : World} (h : Stp w0 W w1) (k : Stp w0 w1 w2) : Stp w0 W w2 := ⟨h.frm.trans k.frm, h.bel.trans k.bel⟩
theorem Stp.below (hb : Below W.heap.size W W') (hB : w0.heap.size ≤ W.heap.size) : Stp w0 W W' := ⟨TFc.below hb, hb.mono hB⟩
/-- Calls that write nothing of the builder's leave it. -/
theorem BdG.below (h : BdG w0 W b nm d s x) (hb : Below W.heap.size W W') : BdG w0 W' b nm d s x :=
  ⟨h.low, h.old.trans (hb.mono h.base), (by unfold bdb att.blk; rw [hb.block b (heap_lt h.box)]; exact h.box), row_below h.nr hb, row_below h.cr hb, row_below h.ar hb, row_below h.hr hb, h.al, fun i h1 h2 => (h.ap i h1 h2).keep hb, h.hl, fun i h1 h2 => ⟨(h.hp i h1 h2).1, (h.hp i h1 h2).2.keep hb⟩, h.mm.kept (grown_below hb) (by simp), h.km.kept (grown_below hb) (by simp), h.ml, h.kl, h.ne⟩
theorem row_map {B c n g : Nat} {t : TypeId} {v : Value} {xs : List Value} (hm : ∃ es c, W.heap[g]? = some (.map es c)) (hg : W.grownBy w1 (some g)) (hr : W.ownsRow B t c v n xs) : w1.ownsRow B t c v n xs := by
  refine ⟨hr.1, ?_⟩
  rcases hr.2 with ⟨a, e⟩ | ⟨k, cap, cur, rfl, h1, h2, h3⟩
  · exact Or.inl ⟨a, e⟩
  · exact Or.inr ⟨k, cap, cur, rfl, h1, by rw [hg.block k (heap_lt h2) (fun e => map_ne hm h2 (Option.some.inj e).symm)]; exact h2, h3⟩
theorem blk_map {g b' : Nat} {t : TypeId} {arr : Array Value} (hm : ∃ es c, W.heap[g]? = some (.map es c)) (hg : W.grownBy w1 (some g)) (hr : blk W b' t arr) : blk w1 b' t arr := by
  unfold att.blk at hr ⊢
  rw [hg.block b' (heap_lt hr) (fun e => map_ne hm hr (Option.some.inj e).symm)]; exact hr
theorem tfc_map {g : Nat} (hm : ∃ es c, W.heap[g]? = some (.map es c)) (hg : W.grownBy w1 (some g)) : TFc W w1 := TFc.grown hg fun k e => by
  cases e
  obtain ⟨es, c, q⟩ := hm
  exact ⟨_, q, fun r => r⟩
/-- The map of nodes grew. -/
theorem BdG.putN {n : Nm} {c : Int} (h : BdG w0 W b nm d s x) (hg : W.grownBy w1 (some x.mb)) (hm : NMap w1 x.mb (s.ms ++ [(n, c)])) : BdG w0 w1 b nm d ⟨s.ns, s.ms ++ [(n, c)], s.cs, s.ks, s.ats, s.ch⟩ x ∧ Stp w0 W w1 := by
  have hq := h.mm.map
  have t1 : TFc W w1 := tfc_map hq hg
  have b1 : Below w0.heap.size W w1 := (Below.refl _ W).grown hg h.base (fun k hk => by cases hk; exact h.ml)
  exact ⟨⟨h.low, h.old.trans b1, blk_map hq hg h.box, row_map hq hg h.nr, row_map hq hg h.cr, row_map hq hg h.ar, row_map hq hg h.hr, h.al, fun i h1 h2 => t1.prs (h.ap i h1 h2), h.hl, fun i h1 h2 => ⟨(h.hp i h1 h2).1, t1.prs (h.hp i h1 h2).2⟩, hm, h.km.kept hg (fun e => h.ne (Option.some.inj e).symm), h.ml, h.kl, h.ne⟩, t1, b1⟩
/-- The map of clusters grew. -/
theorem BdG.putK {n : Nm} {c : Int} (h : BdG w0 W b nm d s x) (hg : W.grownBy w1 (some x.kb)) (hm : KMap w1 x.kb (s.ks ++ [(n, c)])) : BdG w0 w1 b nm d ⟨s.ns, s.ms, s.cs, s.ks ++ [(n, c)], s.ats, s.ch⟩ x ∧ Stp w0 W w1 := by
  have hq := h.km.map
  have t1 : TFc W w1 := tfc_map hq hg
  have b1 : Below w0.heap.size W w1 := (Below.refl _ W).grown hg h.base (fun k hk => by cases hk; exact h.kl)
  exact ⟨⟨h.low, h.old.trans b1, blk_map hq hg h.box, row_map hq hg h.nr, row_map hq hg h.cr, row_map hq hg h.ar, row_map hq hg h.hr, h.al, fun i h1 h2 => t1.prs (h.ap i h1 h2), h.hl, fun i h1 h2 => ⟨(h.hp i h1 h2).1, t1.prs (h.hp i h1 h2).2⟩, h.mm.kept hg (fun e => h.ne (Option.some.inj e)), hm, h.ml, h.kl, h.ne⟩, t1, b1⟩
theorem NMap.set {g o ob : Nat} {ns : List Cl} {t : TypeId} {arr : Array Value} (h : NMap W g ns) (hb : blk W ob t arr) (u : Value) : NMap (W.setCell ⟨ob, o, none⟩ u) g ns := h.kept (grown_set W ob o u) (fun e => map_ne h.map hb (Option.some.inj e))
theorem KMap.set {g o ob : Nat} {cs : List Cl} {t : TypeId} {arr : Array Value} (h : KMap W g cs) (hb : blk W ob t arr) (u : Value) : KMap (W.setCell ⟨ob, o, none⟩ u) g cs := h.kept (grown_set W ob o u) (fun e => map_ne h.map hb (Option.some.inj e))
/-- A row grew, before it is stored. -/
theorem BdG.mid (h : BdG w0 W b nm d s x) (hb : Below W.heap.size W Wd) {c n : Nat} {t : TypeId} {v : Value} {xs : List Value} (hr : Wd.ownsRow w0.heap.size t c v n xs) (hg : Wd.grownBy w1 v.ownBlock) (ht : hotC t = true) (hne : t ≠ 67) :
    bdb w1 b nm d x.nv (.slice none 0 0) x.cv x.av x.mb x.kb x.hv ∧ Stp w0 W w1 ∧ NMap w1 x.mb s.ms ∧ KMap w1 x.kb s.ks := by
  have k := h.below hb
  exact ⟨blk_grown k.box hr hg (Ne.symm hne), ⟨(TFc.below hb).trans (tfc_row hr hg ht), (hb.mono h.base).trans (below_row hr hg k.base)⟩, k.mm.kept hg (map_row k.mm.map hr), k.km.kept hg (map_row k.km.map hr)⟩
/-- A node more. -/
theorem BdG.growN {nv' : Value} {c : Cl} (h : BdG w0 W b nm d s x) (hb : Below W.heap.size W Wd) (hg : Wd.grownBy w1 x.nv.ownBlock) (ho : Nrow w1 w0.heap.size nv' (s.ns ++ [c])) :
    (bdb w1 b nm d x.nv (.slice none 0 0) x.cv x.av x.mb x.kb x.hv ∧ Stp w0 W w1) ∧ BdG w0 (w1.setCell ⟨b, 2, none⟩ nv') b nm d ⟨s.ns ++ [c], s.ms, s.cs, s.ks, s.ats, s.ch⟩ ⟨nv', x.cv, x.av, x.hv, x.mb, x.kb, x.avs, x.hvs⟩ ∧ Stp w0 W (w1.setCell ⟨b, 2, none⟩ nv') := by
  have k := h.below hb
  obtain ⟨hbx, hs, hm1, hm2⟩ := h.mid hb k.nr hg rfl (by decide)
  have t2 : TFc w1 (w1.setCell ⟨b, 2, none⟩ nv') := TFc.set hbx rfl _
  have hs2 : Stp w0 W (w1.setCell ⟨b, 2, none⟩ nv') := ⟨hs.frm.trans t2, hs.bel.setCell h.low _⟩
  exact ⟨⟨hbx, hs⟩, ⟨h.low, h.old.trans hs2.bel, hbx.set2 nv', row_set ho hbx (by decide) _, row_set (row_grown k.cr k.nr hg (by decide)) hbx (by decide) _, row_set (row_grown k.ar k.nr hg (by decide)) hbx (by decide) _, row_set (row_grown k.hr k.nr hg (by decide)) hbx (by decide) _, h.al, fun i h1 h2 => hs2.frm.prs (h.ap i h1 h2), h.hl, fun i h1 h2 => ⟨(h.hp i h1 h2).1, hs2.frm.prs (h.hp i h1 h2).2⟩, hm1.set hbx _, hm2.set hbx _, h.ml, h.kl, h.ne⟩, hs2⟩
/-- A cluster more. -/
theorem BdG.growC {cv' : Value} {c : Cl} (h : BdG w0 W b nm d s x) (hb : Below W.heap.size W Wd) (hg : Wd.grownBy w1 x.cv.ownBlock) (ho : Crow w1 w0.heap.size cv' (s.cs ++ [c])) :
    (bdb w1 b nm d x.nv (.slice none 0 0) x.cv x.av x.mb x.kb x.hv ∧ Stp w0 W w1) ∧ BdG w0 (w1.setCell ⟨b, 4, none⟩ cv') b nm d ⟨s.ns, s.ms, s.cs ++ [c], s.ks, s.ats, s.ch⟩ ⟨x.nv, cv', x.av, x.hv, x.mb, x.kb, x.avs, x.hvs⟩ ∧ Stp w0 W (w1.setCell ⟨b, 4, none⟩ cv') := by
  have k := h.below hb
  obtain ⟨hbx, hs, hm1, hm2⟩ := h.mid hb k.cr hg rfl (by decide)
  have t2 : TFc w1 (w1.setCell ⟨b, 4, none⟩ cv') := TFc.set hbx rfl _
  have hs2 : Stp w0 W (w1.setCell ⟨b, 4, none⟩ cv') := ⟨hs.frm.trans t2, hs.bel.setCell h.low _⟩
  exact ⟨⟨hbx, hs⟩, ⟨h.low, h.old.trans hs2.bel, hbx.set4 cv', row_set (row_grown k.nr k.cr hg (by decide)) hbx (by decide) _, row_set ho hbx (by decide) _, row_set (row_grown k.ar k.cr hg (by decide)) hbx (by decide) _, row_set (row_grown k.hr k.cr hg (by decide)) hbx (by decide) _, h.al, fun i h1 h2 => hs2.frm.prs (h.ap i h1 h2), h.hl, fun i h1 h2 => ⟨(h.hp i h1 h2).1, hs2.frm.prs (h.hp i h1 h2).2⟩, hm1.set hbx _, hm2.set hbx _, h.ml, h.kl, h.ne⟩, hs2⟩
/-- The attributes of a node more. -/
theorem BdG.growA {av' v : Value} {a : List Pr} (h : BdG w0 W b nm d s x) (hb : Below W.heap.size W Wd) (hg : Wd.grownBy w1 x.av.ownBlock) (ho : Arow w1 w0.heap.size av' (x.avs ++ [v])) (hv : PrsT W v a) :
    (bdb w1 b nm d x.nv (.slice none 0 0) x.cv x.av x.mb x.kb x.hv ∧ Stp w0 W w1) ∧ BdG w0 (w1.setCell ⟨b, 5, none⟩ av') b nm d ⟨s.ns, s.ms, s.cs, s.ks, s.ats ++ [a], s.ch⟩ ⟨x.nv, x.cv, av', x.hv, x.mb, x.kb, x.avs ++ [v], x.hvs⟩ ∧ Stp w0 W (w1.setCell ⟨b, 5, none⟩ av') := by
  have k := h.below hb
  obtain ⟨hbx, hs, hm1, hm2⟩ := h.mid hb k.ar hg rfl (by decide)
  have t2 : TFc w1 (w1.setCell ⟨b, 5, none⟩ av') := TFc.set hbx rfl _
  have hs2 : Stp w0 W (w1.setCell ⟨b, 5, none⟩ av') := ⟨hs.frm.trans t2, hs.bel.setCell h.low _⟩
  refine ⟨⟨hbx, hs⟩, ⟨h.low, h.old.trans hs2.bel, hbx.set5 av', row_set (row_grown k.nr k.ar hg (by decide)) hbx (by decide) _, row_set (row_grown k.cr k.ar hg (by decide)) hbx (by decide) _, row_set ho hbx (by decide) _, row_set (row_grown k.hr k.ar hg (by decide)) hbx (by decide) _, ?_, fun i h1 h2 => ?_, h.hl, fun i h1 h2 => ⟨(h.hp i h1 h2).1, hs2.frm.prs (h.hp i h1 h2).2⟩, hm1.set hbx _, hm2.set hbx _, h.ml, h.kl, h.ne⟩, hs2⟩
  · show (x.avs ++ [v]).length = (s.ats ++ [a]).length
    rw [List.length_append, List.length_append, h.al]; rfl
  · have hal := h.al
    rcases Nat.lt_or_ge i x.avs.length with q | q
    · rw [List.getElem_append_left q, List.getElem_append_left (by omega)]; exact hs2.frm.prs (h.ap i q (by omega))
    · rw [List.getElem_append_right q, List.getElem_append_right (by omega)]
      rw [List.getElem_singleton, List.getElem_singleton]; exact hs2.frm.prs hv
/-- A chain more. -/
theorem BdG.growH {hv' rv v : Value} {r a : List Pr} (h : BdG w0 W b nm d s x) (hb : Below W.heap.size W Wd) (hg : Wd.grownBy w1 x.hv.ownBlock) (ho : Hrow w1 w0.heap.size hv' (x.hvs ++ [(rv, v)])) (hr : Prs w0 rv r) (hv : PrsT Wd v a) :
    (bdb w1 b nm d x.nv (.slice none 0 0) x.cv x.av x.mb x.kb x.hv ∧ Stp w0 W w1) ∧ BdG w0 (w1.setCell ⟨b, 8, none⟩ hv') b nm d ⟨s.ns, s.ms, s.cs, s.ks, s.ats, s.ch ++ [(r, a)]⟩ ⟨x.nv, x.cv, x.av, hv', x.mb, x.kb, x.avs, x.hvs ++ [(rv, v)]⟩ ∧ Stp w0 W (w1.setCell ⟨b, 8, none⟩ hv') := by
  have k := h.below hb
  obtain ⟨hbx, hs, hm1, hm2⟩ := h.mid hb k.hr hg rfl (by decide)
  have t1 : TFc Wd w1 := tfc_row k.hr hg rfl
  have t2 : TFc w1 (w1.setCell ⟨b, 8, none⟩ hv') := TFc.set hbx rfl _
  have hs2 : Stp w0 W (w1.setCell ⟨b, 8, none⟩ hv') := ⟨hs.frm.trans t2, hs.bel.setCell h.low _⟩
  refine ⟨⟨hbx, hs⟩, ⟨h.low, h.old.trans hs2.bel, hbx.set8 hv', row_set (row_grown k.nr k.hr hg (by decide)) hbx (by decide) _, row_set (row_grown k.cr k.hr hg (by decide)) hbx (by decide) _, row_set (row_grown k.ar k.hr hg (by decide)) hbx (by decide) _, row_set ho hbx (by decide) _, h.al, fun i h1 h2 => hs2.frm.prs (h.ap i h1 h2), ?_, fun i h1 h2 => ?_, hm1.set hbx _, hm2.set hbx _, h.ml, h.kl, h.ne⟩, hs2⟩
  · show (x.hvs ++ [(rv, v)]).length = (s.ch ++ [(r, a)]).length
    rw [List.length_append, List.length_append, h.hl]; rfl
  · have hal := h.hl
    rcases Nat.lt_or_ge i x.hvs.length with q | q
    · rw [List.getElem_append_left q, List.getElem_append_left (by omega)]; exact ⟨(h.hp i q (by omega)).1, hs2.frm.prs (h.hp i q (by omega)).2⟩
    · rw [List.getElem_append_right q, List.getElem_append_right (by omega)]
      rw [List.getElem_singleton, List.getElem_singleton]; exact ⟨hr, (t1.trans t2).prs hv⟩
/-- The attributes of one node are replaced. -/
theorem BdG.setV {g cap i : Nat} {v : Value} {a : List Pr} (h : BdG w0 W b nm d s x) (hav : x.av = .slice (some ⟨g, 0, none⟩) x.avs.length cap) (hv : PrsT W v a) :
    BdG w0 (W.setCell ⟨g, i, none⟩ v) b nm d ⟨s.ns, s.ms, s.cs, s.ks, s.ats.set i a, s.ch⟩ ⟨x.nv, x.cv, x.av, x.hv, x.mb, x.kb, x.avs.set i v, x.hvs⟩ ∧ Stp w0 W (W.setCell ⟨g, i, none⟩ v) := by
  have har := h.ar
  rw [hav] at har
  obtain ⟨ho, hg⟩ := World.ownsRow.stored har i v
  obtain ⟨k, cap', cur, e, h1, h2, -⟩ := har.2.resolve_left (fun q => by cases q.1)
  cases e
  have hne : b ≠ g := fun e => by
    have q := h.box
    unfold bdb att.blk at q
    rw [e, h2] at q
    cases q
  have t1 : TFc W (W.setCell ⟨g, i, none⟩ v) := TFc.grown hg fun k e => by
    cases e
    exact ⟨_, h2, hot_not rfl⟩
  have b1 : Below w0.heap.size W (W.setCell ⟨g, i, none⟩ v) := (Below.refl _ W).setCell h1 _
  have hs2 : Stp w0 W (W.setCell ⟨g, i, none⟩ v) := ⟨t1, b1⟩
  have far : ∀ {B c n : Nat} {t : TypeId} {u : Value} {xs : List Value}, W.ownsRow B t c u n xs → t ≠ 54 → (W.setCell ⟨g, i, none⟩ v).ownsRow B t c u n xs := fun {B c n t u xs} hr hu => row_far hr h2 hu fun q _ hq => Below.heap_setCell _ _ _ _ hq
  refine ⟨⟨h.low, h.old.trans b1, ?_, far h.nr (by decide), far h.cr (by decide), ?_, far h.hr (by decide), by simp [h.al], fun j h3 h4 => ?_, h.hl, fun j h3 h4 => ⟨(h.hp j h3 h4).1, t1.prs (h.hp j h3 h4).2⟩, h.mm.kept hg (fun e => map_ne h.mm.map h2 (Option.some.inj e)), h.km.kept hg (fun e => map_ne h.km.map h2 (Option.some.inj e)), h.ml, h.kl, h.ne⟩, hs2⟩
  · unfold bdb att.blk
    rw [Below.heap_setCell _ _ _ _ hne]; exact h.box
  · show World.ownsRow _ _ _ _ x.av (x.avs.set i v).length ((x.avs.set i v).flatMap vC)
    rw [List.length_set, hav]
    have e : ∀ (l : List Value), l.flatMap vC = l := fun l => by
      induction l with
      | nil => rfl
      | cons y t ih => show y :: t.flatMap vC = _; rw [ih]
    rw [e] at ho ⊢
    exact ho
  · rw [List.getElem_set, List.getElem_set]
    by_cases e : i = j
    · rw [if_pos e, if_pos e]; exact t1.prs hv
    · rw [if_neg e, if_neg e]; exact t1.prs (h.ap j (by simpa using h3) (by simpa using h4))
end
end Go.Proofs.YtcdoicgbjoikkaaGreatDoor.nor
