/-
  The contracts of slices.BinarySearch at slices of ints and of cmp.Less.
-/
import Derived.Test.YtffmpkdkifecpaaHasI
import Derived.Test.YtffmpkdkifecpaaMathSet
namespace Go.Proofs.Ytffmpkdkifecpaa
open Go.RowKit
set_option maxRecDepth 100000
set_option linter.unusedVariables false

theorem isNaN_any (x : Int) (w : World) : Calls Try.prog 82 #[.int .i64 x] w fun e w' => e = .returned (.bool false) ∧ w = w' := by
  have hb : (x != x) = false := by simp
  go_enter Try.func82, Try.ntmps82
  go_wp2
  go_ret
  exact ⟨rfl, rfl⟩
theorem less_any (x y : Int) (w : World) : Calls Try.prog 74 #[.int .i64 x, .int .i64 y] w fun e w' => e = .returned (.bool (decide (x < y))) ∧ w = w' := by
  go_enter Try.func74, Try.ntmps74
  go_wp2_with fail
  refine (isNaN_any _ _).mono ?_; rintro e w' ⟨rfl, rfl⟩
  go_wp2_with fail
  go_ret
  exact ⟨rfl, rfl⟩
def RetCut (w : World) (l : List Int) (t : Int) (e : Ending) (w' : World) : Prop := ∃ i : Nat, e = .returned (.tuple #[.int .i64 i, .bool (hasI l t)]) ∧ w = w' ∧ CutAt l t i
end Go.Proofs.Ytffmpkdkifecpaa
