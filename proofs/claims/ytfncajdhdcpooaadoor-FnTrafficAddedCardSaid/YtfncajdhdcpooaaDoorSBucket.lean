/-
  BucketS as values: what they read as, what owns them, and the contracts of the laws' helpers on them.
-/
import Derived.Test.YtfncajdhdcpooaaDoorMathSh
import Derived.Test.YtfncajdhdcpooaaDoorWordsK
import Derived.Test.YtfncajdhdcpooaaDoorBk
import Derived.Deep.RegionHeld3
import Derived.Deep.DeepCutAuto
import Derived.RegionTactic
import Derived.BigRegion
namespace Go.Proofs.YtfncajdhdcpooaaDoor
open Go.RowKit
set_option maxRecDepth 100000

end Go.Proofs.YtfncajdhdcpooaaDoor
