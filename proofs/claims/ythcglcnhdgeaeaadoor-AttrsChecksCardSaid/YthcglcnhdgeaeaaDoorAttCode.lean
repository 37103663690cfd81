/-
  The landed code of layer 10 answers as the chapter says. No condition.
-/
import Derived.Test.YthcglcnhdgeaeaaDoorMAh
import Derived.Test.YthcglcnhdgeaeaaDoorMAe
namespace Go.Proofs.YthcglcnhdgeaeaaDoor.att
open Go.RowKit lex tre

theorem attOk : AttOk where
  check := fun k a e0 w hM h1 h2 h => check10_of k a e0 w hM h1 h2 h
  checkAll := fun k v l e0 w hM h hl hS he => checkall_of k v l e0 w hM h hl hS he
  merge := fun v v2 l m w h1 h2 hl hm _ _ => merge10_of v v2 l m w h1 h2 hl hm
  get := fun v l s x r w h hl hr => get_of v l s x r w h hl hr
  number := fun k v l s n w h hl hs hn => num10_of k v l s n w h hl hs hn
  ports := fun s l e0 w hM hs h => ports_of s l e0 w hM hs h
end Go.Proofs.YthcglcnhdgeaeaaDoor.att
