/-
  The greatest one of the jobs that wait, by its class or by its class and age.
-/
import Derived.Test.YtdlmacoblmnajaaAwait
import Derived.Test.YtdlmacoblmnajaaHeld
import Derived.Deep.RegionHeld3
import Derived.Deep.DeepCutAuto
import Derived.RegionTactic
import Derived.BigRegion
namespace Go.Proofs.Ytdlmacoblmnajaa
open Go.RowKit
set_option maxRecDepth 100000
set_option linter.unusedVariables false

/-- The class of a job, and one more for each step that it has waited. -/
def agedC (tick step : Int) (y : Jb) : Int := y.c + (tick - y.t) / step
end Go.Proofs.Ytdlmacoblmnajaa
