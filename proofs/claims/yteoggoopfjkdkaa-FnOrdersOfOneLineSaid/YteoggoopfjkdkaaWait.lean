/-
  What waits: the predicates on jobs, and the library's search by them.
-/
import Derived.Test.YteoggoopfjkdkaaLine
import Derived.Deep.QuietTactic
import Derived.BigQuiet
import Derived.Laws.StructEq
namespace Go.Proofs.Yteoggoopfjkdkaa
open Go.RowKit
set_option maxRecDepth 100000
set_option linter.unusedVariables false

/-- A job, not the empty one. -/
def isJ (y : Jb) : Bool := !(decide (y.t = 0) && (decide (y.c = 0) && decide (y.l = 0)))
/-- A job that has come. -/
def isW (tick : Int) (y : Jb) : Bool := isJ y && decide (y.t ≤ tick)
theorem neq_job (t c l : Int) (w : World) : (binOp .neq 43 (.agg #[.int .i64 t, .int .i64 c, .int .i64 l]) (.agg #[.int .i64 0, .int .i64 0, .int .i64 0])).run Try.prog w = .ok (.bool (isJ ⟨t, c, l⟩)) w := by
  by_cases h1 : t = 0 <;> by_cases h2 : c = 0 <;> by_cases h3 : l = 0
  all_goals
    go_simp
    simp [isJ, h1, h2, h3]
set_option maxHeartbeats 1000000 in
theorem await1_any (y : Jb) (w : World) : Calls Try.prog 72 #[JbV y] w (RetV w (.bool (isJ y))) := by
  obtain ⟨t, c, l⟩ := y
  simp only [JbV]
  have hW : Below w.heap.size w (w.alloc (.cells #[.int .i64 t, .int .i64 c, .int .i64 l] 43)) := (Below.refl _ _).alloc (Nat.le_refl _) _
  have hne := neq_job t c l
  go_enter Try.func72, Try.ntmps72
  go_wp2_with fail
  go_ret
  exact ⟨rfl, hW⟩
set_option maxHeartbeats 1000000 in
theorem waits_any (g : Nat) (tick : Int) (y : Jb) (w : World) (hc : w.cell? ⟨g, 0, none⟩ = some (.int .i64 tick)) (hg : g < w.heap.size) :
    Calls Try.prog 71 #[.pointer (some ⟨g, 0, none⟩), JbV y] w (RetV w (.bool (isW tick y))) := by
  obtain ⟨t, c, l⟩ := y
  simp only [JbV]
  have hW : Below w.heap.size w (w.alloc (.cells #[.int .i64 t, .int .i64 c, .int .i64 l] 43)) := (Below.refl _ _).alloc (Nat.le_refl _) _
  have hne := neq_job t c l
  have hq : (w.alloc (.cells #[.int .i64 t, .int .i64 c, .int .i64 l] 43)).cell? ⟨g, 0, none⟩ = some (.int .i64 tick) := (World.cell?_alloc_lt w _ ⟨g, 0, none⟩ hg).trans hc
  cases hj : isJ ⟨t, c, l⟩
  · have HF : Hid (isW tick ⟨t, c, l⟩ = false) := by show _ = _; simp [isW, hj]
    rw [hj] at hne
    clear hj
    go_enter Try.func71, Try.ntmps71
    go_wp2_with fail
    go_quiet (fail)
    go_wp2_with fail
    go_ret
    exact ⟨congrArg (fun z => Ending.returned (.bool z)) HF.out.symm, below_drewN hW _⟩
  · have HF : Hid (isW tick ⟨t, c, l⟩ = decide (t ≤ tick)) := by show _ = _; simp [isW, hj]
    rw [hj] at hne
    clear hj
    go_enter Try.func71, Try.ntmps71
    go_wp2_with fail
    go_quiet (fail)
    go_wp2_with fail
    go_ret
    exact ⟨congrArg (fun z => Ending.returned (.bool z)) HF.out.symm, below_drewN hW _⟩
end Go.Proofs.Yteoggoopfjkdkaa
