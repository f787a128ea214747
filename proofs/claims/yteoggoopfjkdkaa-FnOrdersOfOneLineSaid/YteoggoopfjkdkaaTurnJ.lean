/-
  Classes that take turns, the program's side: the search for a turn.
-/
import Derived.Test.YteoggoopfjkdkaaTurnI
import Derived.Deep.LoopGhost
import Derived.Deep.RegionWith
import Derived.Deep.DeepCutAuto
import Derived.WalkMore
namespace Go.Proofs.Yteoggoopfjkdkaa
open Go.RowKit
set_option maxRecDepth 100000
set_option linter.unusedVariables false

/-- What is known of the jobs that are left. -/
def JbOk (l : List Jb) : Prop := ∀ k, k < l.length → isJ l[k]! = true → 0 ≤ l[k]!.c ∧ l[k]!.c ≤ 7 ∧ 1 ≤ l[k]!.l ∧ l[k]!.l ≤ 20
theorem JbOk.set {l : List Jb} (h : JbOk l) (i : Nat) (hi : i < l.length) : JbOk (l.set i jbZ) := by
  intro k hk hj
  rw [List.length_set] at hk
  rw [set_get l i jbZ k hi] at hj ⊢
  by_cases e : k = i
  · rw [if_pos e, isJ_zero] at hj; cases hj
  · rw [if_neg e] at hj ⊢
    exact h k hk hj
def RetTurn (gr : List Int) (pr : Jb → Int) (f : Nat) (lo g : Nat) (T step : Int) (tc : Nat) (tb : Bool) (vg vp : Value) (cr : Nat → Int) (l : List Jb) (w : World) (e : Ending) (w' : World) : Prop :=
  ∃ i f1 tc' cr', i < l.length ∧ isW T l[i]! = true ∧ e = .returned (.int .i64 (i : Nat)) ∧ LN w' lo g T step (tc' : Nat) true vg vp cr' l ∧ tc' < 8 ∧ Cb f1 cr' ∧ f1 < f ∧ (∀ T', Fu f1 T' (l.set i jbZ) tc' true cr') ∧
    (∀ out, runT gr pr f T l out tc tb cr = runT gr pr f1 (T + l[i]!.l) (l.set i jbZ) (out.set i T) tc' true cr') ∧ Wr g (g + 1) w w'

end Go.Proofs.Yteoggoopfjkdkaa
