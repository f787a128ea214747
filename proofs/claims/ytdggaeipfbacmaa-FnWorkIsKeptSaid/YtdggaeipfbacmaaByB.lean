/-
  The model's starts by rank.
-/
import Derived.Test.YtdggaeipfbacmaaBy
import Derived.Deep.DeepCutAuto
namespace Go.Proofs.Ytdggaeipfbacmaa
open Go.RowKit
set_option maxRecDepth 100000
set_option linter.unusedVariables false

/-- The model's letters for a choice: which one, and with which rank. -/
def bI : Option Nat → Int
  | none => -1
  | some b => b
def mI (r : Nat → Int) : Option Nat → Int
  | none => -1
  | some b => r b
theorem best_yes {w : Nat → Bool} {r : Nat → Int} {m : Nat} (hw : w m = true) (h : mI r (bestOf w r m) < r m) : bI (bestOf w r (m + 1)) = m ∧ mI r (bestOf w r (m + 1)) = r m := by
  rw [bestOf]
  cases hb : bestOf w r m with
  | none => simp [hw, bI, mI]
  | some b =>
    rw [hb] at h
    have h' : r b < r m := h
    simp [hw, h', bI, mI]
theorem best_no {w : Nat → Bool} {r : Nat → Int} {m : Nat} (hr : 0 ≤ r m) (h : ¬ (w m = true ∧ mI r (bestOf w r m) < r m)) : bestOf w r (m + 1) = bestOf w r m := by
  rw [bestOf]
  cases hb : bestOf w r m with
  | none =>
    rw [hb] at h
    cases hw : w m
    · rfl
    · exact absurd ⟨hw, by show (-1 : Int) < r m; omega⟩ h
  | some b =>
    rw [hb] at h
    simp only
    cases hw : w m
    · rfl
    · have : ¬ r b < r m := fun h9 => h ⟨hw, h9⟩
      simp [this]
theorem best_wait {w : Nat → Bool} {r : Nat → Int} {m : Nat} (hw : w m = false) : bestOf w r (m + 1) = bestOf w r m := by
  rw [bestOf]
  cases hb : bestOf w r m with
  | none => simp [hw]
  | some b => simp [hw]

end Go.Proofs.Ytdggaeipfbacmaa
