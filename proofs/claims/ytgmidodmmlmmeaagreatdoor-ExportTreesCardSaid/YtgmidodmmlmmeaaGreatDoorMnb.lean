/-
  The machine of the reference of layer 12 in memory: its box, its rows, what its calls leave alone. No condition.
  The landed code's way of normalization (layer 12) as plain functions: chains of refs in place of edges, a table of ends. No function of the program is named here; no condition.
  The landed code's edges (layer 12) as plain functions: the table of ends, the edges of chains, at most one too many; and that all together is the graph that the reference builds. No function of the program is named here; no condition.
-/
import Derived.Test.YtgmidodmmlmmeaaGreatDoorNorPlain
namespace Go.Proofs.YtgmidodmmlmmeaaGreatDoor.nor
open Go.RowKit lex tre att
theorem heap_lt {w:World}{k:Nat}{o:Obj}(h:w.heap[k]?=some o):k < w.heap.size:=by
 rcases Nat.lt_or_ge k w.heap.size with q | q
 ·exact q
 ·rw [Array.getElem?_eq_none (by omega)] at h;cases h
theorem blk_set {W:World}{b o:Nat}{t:TypeId}{arr:Array Value}(h:blk W b t arr)(u:Value):blk (W.setCell ⟨b,o,none⟩ u) b t (arr.setIfInBounds o u):=by
 unfold blk at *
 simp only [World.setCell,Array.getElem?_modify,h]
 simp
def ndC (x:Cl):List Value:=[.string (bb x.1),.string ⟨#[]⟩,.int .i64 0,.int .i64 0,.int .i64 x.2,.slice none 0 0]
abbrev Nrow (W:World)(B:Nat)(v:Value)(l:List Cl):Prop:=W.ownsRow B 59 6 v l.length (l.flatMap ndC)
theorem row_far {W W':World}{B c n g:Nat}{t u:TypeId}{v:Value}{xs:List Value}{arr:Array Value}{fr:Nat × Nat}(h:W.ownsRow B t c v n xs)(hg:W.heap[g]?=some (.cells arr u fr))(hu:t≠u)(hf:∀ q,q < W.heap.size→q≠g→W'.heap[q]?=W.heap[q]?):W'.ownsRow B t c v n xs:=by
 refine ⟨h.1,?_⟩
 rcases h.2 with ⟨a,b⟩ | ⟨k,cap,cur,rfl,h1,h2,h3⟩
 ·exact Or.inl ⟨a,b⟩
 ·have hne:k≠g:=by
    intro e
    subst e
    rw [h2] at hg
    cases hg
    exact hu rfl
  exact Or.inr ⟨k,cap,cur,rfl,h1,by rw [hf k (heap_lt h2) hne];exact h2,h3⟩
theorem row_set {W:World}{B c n g o:Nat}{t u:TypeId}{v:Value}{xs:List Value}{arr:Array Value}(h:W.ownsRow B t c v n xs)(hg:blk W g u arr)(hu:t≠u)(y:Value):(W.setCell ⟨g,o,none⟩ y).ownsRow B t c v n xs :=
 row_far h hg hu fun _ _ hne=>Below.heap_setCell _ _ _ _ hne
theorem row_below {W W':World}{B c n:Nat}{t:TypeId}{v:Value}{xs:List Value}(h:W.ownsRow B t c v n xs)(hb:Below W.heap.size W W'):W'.ownsRow B t c v n xs:=by
 refine ⟨h.1,?_⟩
 rcases h.2 with ⟨a,b⟩ | ⟨k,cap,cur,rfl,h1,h2,h3⟩
 ·exact Or.inl ⟨a,b⟩
 ·exact Or.inr ⟨k,cap,cur,rfl,h1,by rw [hb.block k (heap_lt h2)];exact h2,h3⟩
theorem row_grown {W W':World}{B B' c c' n n':Nat}{t u:TypeId}{v v':Value}{xs ys:List Value}(h:W.ownsRow B t c v n xs)(hg:W.ownsRow B' u c' v' n' ys)(hw:W.grownBy W' v'.ownBlock)(hu:t≠u):W'.ownsRow B t c v n xs:=by
 refine ⟨h.1,?_⟩
 rcases h.2 with ⟨a,b⟩ | ⟨k,cap,cur,rfl,h1,h2,h3⟩
 ·exact Or.inl ⟨a,b⟩
 ·refine Or.inr ⟨k,cap,cur,rfl,h1,?_,h3⟩
  rw [hw.block k (heap_lt h2) ?_]
  ·exact h2
  ·intro e
   rcases hg.2 with ⟨rfl,_⟩ | ⟨k',cap',cur',rfl,_,h2',_⟩
   ·cases e
   ·obtain rfl:k=k':=Option.some.inj e
    rw [h2] at h2'
    cases h2'
    exact hu rfl
end Go.Proofs.YtgmidodmmlmmeaaGreatDoor.nor
namespace Go.Proofs.YtgmidodmmlmmeaaGreatDoor.nor
open lex tre att
structure Bs where
 ns:List Cl
 ats:List (List Pr)
 cs:List Cl
 ch:List (List Pr × List Pr)
theorem findG_ge (n:Nm):∀ (l:List gra.Nd) (i:Nat),gra.findG l n i=-1∨(i:Int)≤gra.findG l n i
 | [],_=>Or.inl rfl
 | x :: t,i=>by
  unfold gra.findG
  split
  ·exact Or.inr (Int.le_refl _)
  ·rcases findG_ge n t (i+1) with h | h
   ·exact Or.inl h
   ·exact Or.inr (by omega)
end Go.Proofs.YtgmidodmmlmmeaaGreatDoor.nor
