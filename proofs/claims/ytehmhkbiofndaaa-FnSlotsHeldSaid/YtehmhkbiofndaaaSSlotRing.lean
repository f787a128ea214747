/-
  SlotRingS as values: what they read as, what owns them, and the contracts of the laws' helpers on them.
-/
import Derived.Test.YtehmhkbiofndaaaMathSlot
import Derived.Test.YtehmhkbiofndaaaWordsK
import Derived.Test.YtehmhkbiofndaaaBk
import Derived.Deep.RegionHeld3
import Derived.Deep.DeepCutAuto
import Derived.RegionTactic
import Derived.BigRegion
namespace Go.Proofs.Ytehmhkbiofndaaa
open Go.RowKit
set_option maxRecDepth 100000

end Go.Proofs.Ytehmhkbiofndaaa
