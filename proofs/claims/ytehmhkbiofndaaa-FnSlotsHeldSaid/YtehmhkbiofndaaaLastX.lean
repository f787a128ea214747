/-
  The contracts of LastRead, both sides.
-/
import Derived.Test.YtehmhkbiofndaaaReadX
namespace Go.Proofs.Ytehmhkbiofndaaa
open Go.RowKit Go.Maps
set_option maxRecDepth 100000
set_option linter.unusedVariables false

def lastOf (L : List Int) (j : Nat) : Int := (L.take j).foldl max 0
theorem lastOf_succ (L : List Int) (j : Nat) (hj : j < L.length) : lastOf L (j + 1) = max (lastOf L j) (L.getD j 0) := by
  unfold lastOf
  rw [List.take_add_one, List.foldl_append, List.getElem?_eq_getElem hj, List.getD_eq_getElem?_getD, List.getElem?_eq_getElem hj]
  rfl
/-- What LastRead says. -/
def lastSays (x : Sr) (l : List Ms) : Int × Bool := if slOk x l then (lastOf (readL x l) l.length, true) else (0, false)
theorem lastSays_no {x : Sr} {l : List Ms} (h : slOk x l = false) : lastSays x l = (0, false) := by simp only [lastSays, h]; rfl
theorem lastSays_yes {x : Sr} {l : List Ms} (h : slOk x l = true) : lastSays x l = (lastOf (readL x l) l.length, true) := by simp only [lastSays, h, if_true]
end Go.Proofs.Ytehmhkbiofndaaa
