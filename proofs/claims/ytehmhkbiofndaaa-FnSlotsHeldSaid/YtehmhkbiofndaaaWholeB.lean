/-
  The model behind all messages.
-/
import Derived.Test.YtehmhkbiofndaaaWhole
import Derived.Deep.RegionHeld3
namespace Go.Proofs.Ytehmhkbiofndaaa
open Go.RowKit Go.Maps
set_option maxRecDepth 100000
set_option linter.unusedVariables false

theorem needT_le {x : Sr} {l : List Ms} (hin : 2 ≤ x.n ∧ x.n ≤ 12) (hm : areMs x.n l = true) : needT x l ≤ 1000 := by
  unfold needT
  split
  · omega
  · rename_i h0
    have h1 := (lastT_le hm 0 (by omega)).2
    have h2 : 2 * x.n.toNat * (l.length + 1) ≤ 24 * 21 := Nat.mul_le_mul (by omega) (by have := (areMs_in hm).1; omega)
    omega
end Go.Proofs.Ytehmhkbiofndaaa
