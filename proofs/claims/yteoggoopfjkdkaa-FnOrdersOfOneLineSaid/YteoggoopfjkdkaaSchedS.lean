/-
  Whether starts are a schedule: the model's side.
-/
import Derived.Test.YteoggoopfjkdkaaSortI
import Derived.Test.YteoggoopfjkdkaaJobs
namespace Go.Proofs.Yteoggoopfjkdkaa
open Go.RowKit
set_option maxRecDepth 100000
set_option linter.unusedVariables false

theorem given_no_lenS {js : List Jb} {ss : List Int} (h : js.length ≠ ss.length) : givenB js ss = false := by simp [givenB, h]
end Go.Proofs.Yteoggoopfjkdkaa
