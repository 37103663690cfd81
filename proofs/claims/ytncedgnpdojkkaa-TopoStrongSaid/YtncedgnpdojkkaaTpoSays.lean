/-
  All that the statements of layer 15 ask of the landed code. No condition.
-/
import Derived.Test.YtncedgnpdojkkaaTpoCz
