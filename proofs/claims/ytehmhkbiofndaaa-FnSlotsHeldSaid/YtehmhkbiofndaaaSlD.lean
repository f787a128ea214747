/-
  The contracts of HopsOfMessage.
-/
import Derived.Test.YtehmhkbiofndaaaSlC
namespace Go.Proofs.Ytehmhkbiofndaaa
open Go.RowKit
set_option maxRecDepth 100000
set_option linter.unusedVariables false

def hopsMsOf (x : Sr) (y : Ms) : Int × Bool := hopsMs x y.t y.f y.o

end Go.Proofs.Ytehmhkbiofndaaa