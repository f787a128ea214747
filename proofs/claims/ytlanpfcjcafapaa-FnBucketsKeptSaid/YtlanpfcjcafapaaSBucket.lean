/-
  BucketS as values: what they read as, what owns them, and the contracts of the laws' helpers on them.
-/
import Derived.Test.YtlanpfcjcafapaaMathSh
import Derived.Test.YtlanpfcjcafapaaWordsK
import Derived.Test.YtlanpfcjcafapaaBk
import Derived.Deep.RegionHeld3
import Derived.Deep.DeepCutAuto
import Derived.RegionTactic
import Derived.BigRegion
namespace Go.Proofs.Ytlanpfcjcafapaa
open Go.RowKit
set_option maxRecDepth 100000

end Go.Proofs.Ytlanpfcjcafapaa
