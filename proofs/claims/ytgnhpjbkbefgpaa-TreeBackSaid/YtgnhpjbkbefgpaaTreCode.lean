/-
  The landed tree answers as its plain functions say: all seven exported functions. No condition.
-/
import Derived.Test.YtgnhpjbkbefgpaaTreCRn
import Derived.Test.YtgnhpjbkbefgpaaTreCEq
import Derived.Test.YtgnhpjbkbefgpaaTreOk
namespace Go.Proofs.Ytgnhpjbkbefgpaa.tre
open Go.RowKit lex

theorem treOk : TreOk where
  valid := fun v T R w h hf hR => valid_of v T R w h (few_spec hf).1 hR
  count := fun v T w h hf => count_of v T w h (few_spec hf).1
  depth := fun v T R w h hf hR => depth_of v T w R h hR (few_spec hf).1
  names := fun v T L w h hf hL => names_of v T L w h (few_spec hf).1 (few_spec hf).2 hL
  clusters := fun v T L w h hf hL => clusters_of v T L w h (few_spec hf).1 hL
  equal := fun v v' S T R w h h' hR => cequal_of v v' S T R w h h' hR
  rename := fun v T a b E w h hf ha hb hE => crename_of v T a b E w h (few_spec hf).1 (few_spec hf).2 ha hb hE
end Go.Proofs.Ytgnhpjbkbefgpaa.tre
