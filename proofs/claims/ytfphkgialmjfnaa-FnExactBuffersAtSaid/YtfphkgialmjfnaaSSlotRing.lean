/-
  SlotRingS as values: what they read as, what owns them, and the contracts of the laws' helpers on them.
-/
import Derived.Test.YtfphkgialmjfnaaMathSlot
import Derived.Test.YtfphkgialmjfnaaWordsK
import Derived.Test.YtfphkgialmjfnaaBk
import Derived.Deep.RegionHeld3
import Derived.Deep.DeepCutAuto
import Derived.RegionTactic
import Derived.BigRegion
namespace Go.Proofs.Ytfphkgialmjfnaa
open Go.RowKit
set_option maxRecDepth 100000

end Go.Proofs.Ytfphkgialmjfnaa
