/-
  What the functions of the landed layer 14 return, in the forms that the walks of its laws ask for; and the example of the chapter. No condition.
-/
import Derived.Test.YtkmamdlhpbobhaaDigCn
import Derived.Test.YtkmamdlhpbobhaaDigWVa
import Derived.Test.YtkmamdlhpbobhaaDigWSi
import Derived.Test.YtkmamdlhpbobhaaDigWCo
namespace Go.Proofs.Ytkmamdlhpbobhaa.dig
open Go.RowKit

theorem sVal : ValSays := fun v n l R w h hr => cvalid_of v n l R w h hr
theorem sSame : SameSays := fun v v2 n n2 a b R w h h2 hr => csame_of v v2 n n2 a b R w h h2 hr
theorem sDeg : DegSays := fun v n l x R w h h4 hr => cdeg_of v n l x R w h (by have := h4.out; omega) hr
theorem sNbr : NbrSays := fun v n l x R w h _ hr => cnbr_of v n l x R w h hr
theorem sFlip : FlipSays := fun v sv n m l L set E w h hs hr => cflip_of v sv n m l L set E w h hs hr
theorem sSim : SimSays := fun v n m l L J w h _ hr => csimple_of v n m l L J w h hr
theorem sInd : IndSays := fun v sv n m l L keep J E w h hs hr => cind_of v sv n m l L keep J E w h hs hr
theorem sAwake : AwakeSays := awake_of sVal sSame sDeg sNbr sFlip sSim sInd
end Go.Proofs.Ytkmamdlhpbobhaa.dig
