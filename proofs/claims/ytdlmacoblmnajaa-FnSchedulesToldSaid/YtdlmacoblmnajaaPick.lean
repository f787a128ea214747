/-
  The two choices by rank.
-/
import Derived.Test.YtdlmacoblmnajaaBest
namespace Go.Proofs.Ytdlmacoblmnajaa
open Go.RowKit
set_option maxRecDepth 100000
set_option linter.unusedVariables false

/-- The choice of one of those that wait. -/
def pickOf (rk : Jb → Int) (tick : Int) (l : List Jb) : Option Nat := bestOf (fun i => isW tick l[i]!) (fun i => rk l[i]!) l.length
/-- Some job waits, f the first one. -/
def Fst (tick : Int) (l : List Jb) (f : Nat) : Prop := f < l.length ∧ isW tick l[f]! = true ∧ ∀ j, j < f → isW tick l[j]! = false
end Go.Proofs.Ytdlmacoblmnajaa
