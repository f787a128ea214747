/-
  The contracts of WholeRing.
-/
import Derived.Test.YtifebadcfopfkaaRStep
namespace Go.Proofs.Ytifebadcfopfkaa
open Go.RowKit
set_option maxRecDepth 100000
set_option linter.unusedVariables false

/-- What WholeRing says. -/
def wholeRg (n : Int) : Rg × Bool := if wi n 2 12 = true then (⟨n, []⟩, true) else (RgZero, false)
theorem wholeRg_len (n : Int) : (wholeRg n).1.d.length ≤ 1048576 := by unfold wholeRg; split <;> simp [RgZero]
theorem implWholeRing_any (n : Int) (w : World) (hx : (Lit.int .i64 n).wf = true) :
    Calls Try.prog 41 #[.int .i64 n] w (RetRgB 3 w (wholeRg n).1 (wholeRg n).2) := by
  have hb0 : ∀ cs, Below w.heap.size w (w.alloc (.cells cs 26)) := fun cs => (Below.refl _ _).alloc (Nat.le_refl _) _
  cases hg : wi n 2 12
  · rw [show wholeRg n = (RgZero, false) from by simp [wholeRg, hg]]
    go_enter Try.func41, Try.ntmps41
    go_wp2_with fail
    refine (isWithin_wi _ _ _ _).mono ?_; rintro e w' ⟨rfl, rfl⟩
    rw [hg]
    go_wp2_with fail
    refine bodyPost_ret (v := .tuple #[RgV RgZero (.slice none 0 0), .bool false]) (by simp [results, Try.results41, go_sem, RgV, RgZero]) rfl ⟨_, rfl, oRgZero _ _ _ _, ?_⟩
    exact hb0 _
  · rw [show wholeRg n = (⟨n, []⟩, true) from by simp [wholeRg, hg]]
    go_enter Try.func41, Try.ntmps41
    go_wp2_with fail
    refine (isWithin_wi _ _ _ _).mono ?_; rintro e w' ⟨rfl, rfl⟩
    rw [hg]
    go_wp2_with fail
    refine bodyPost_ret (v := .tuple #[RgV ⟨n, []⟩ (.slice none 0 0), .bool true]) (by simp [results, Try.results41, go_sem, RgV]) rfl ⟨_, rfl, ⟨_, rfl, .inl ⟨rfl, none, 0, rfl, by simp, fun _ => rfl⟩⟩, ?_⟩
    exact hb0 _
theorem specWholeRing_any (n : Int) (w : World) (hx : (Lit.int .i64 n).wf = true) :
    Calls Try.prog 42 #[.int .i64 n] w (RetRgB 3 w (wholeRg n).1 (wholeRg n).2) := by
  have hb0 : ∀ cs, Below w.heap.size w (w.alloc (.cells cs 26)) := fun cs => (Below.refl _ _).alloc (Nat.le_refl _) _
  cases hg : wi n 2 12
  · rw [show wholeRg n = (RgZero, false) from by simp [wholeRg, hg]]
    go_enter Try.func42, Try.ntmps42
    go_wp2_with fail
    refine (l1In_wi _ _ _ _).mono ?_; rintro e w' ⟨rfl, rfl⟩
    rw [hg]
    go_wp2_with fail
    refine bodyPost_ret (v := .tuple #[RgV RgZero (.slice none 0 0), .bool false]) (by simp [results, Try.results42, go_sem, RgV, RgZero]) rfl ⟨_, rfl, oRgZero _ _ _ _, ?_⟩
    exact hb0 _
  · rw [show wholeRg n = (⟨n, []⟩, true) from by simp [wholeRg, hg]]
    go_enter Try.func42, Try.ntmps42
    go_wp2_with fail
    refine (l1In_wi _ _ _ _).mono ?_; rintro e w' ⟨rfl, rfl⟩
    rw [hg]
    go_wp2_with fail
    refine bodyPost_ret (v := .tuple #[RgV ⟨n, []⟩ (.slice none 0 0), .bool true]) (by simp [results, Try.results42, go_sem, RgV]) rfl ⟨_, rfl, ⟨_, rfl, .inl ⟨rfl, none, 0, rfl, by simp, fun _ => rfl⟩⟩, ?_⟩
    exact hb0 _
end Go.Proofs.Ytifebadcfopfkaa
