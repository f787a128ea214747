/-
  A line of the model: one begins; the starts by rank.
-/
import Derived.Test.YtdggaeipfbacmaaMathBy
import Derived.Deep.LoopGhost
namespace Go.Proofs.Ytdggaeipfbacmaa
open Go.RowKit
set_option maxRecDepth 100000
set_option linter.unusedVariables false

end Go.Proofs.Ytdggaeipfbacmaa
