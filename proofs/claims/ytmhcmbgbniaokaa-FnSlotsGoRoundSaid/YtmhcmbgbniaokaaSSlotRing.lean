/-
  SlotRingS as values: what they read as, what owns them, and the contracts of the laws' helpers on them.
-/
import Derived.Test.YtmhcmbgbniaokaaMathSlot
import Derived.Test.YtmhcmbgbniaokaaWordsK
import Derived.Test.YtmhcmbgbniaokaaBk
import Derived.Deep.RegionHeld3
import Derived.Deep.DeepCutAuto
import Derived.RegionTactic
import Derived.BigRegion
namespace Go.Proofs.Ytmhcmbgbniaokaa
open Go.RowKit
set_option maxRecDepth 100000

end Go.Proofs.Ytmhcmbgbniaokaa
