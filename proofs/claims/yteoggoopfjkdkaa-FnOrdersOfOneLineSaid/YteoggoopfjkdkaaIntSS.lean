/-
  The contracts of the laws' helpers on slices of slices of ints: an equality, marks that are laid and marks that are held.
-/
import Derived.Test.YteoggoopfjkdkaaWordsSS
import Derived.Deep.RegionHeld3
import Derived.Deep.DeepCutAuto
import Derived.RegionTactic
import Derived.BigRegion
namespace Go.Proofs.Yteoggoopfjkdkaa
open Go.RowKit
set_option maxRecDepth 100000
set_option linter.unusedVariables false

/-- How many numbers lists have together. -/
def total : List (List Int) → Nat
  | [] => 0
  | l :: L => l.length + total L
theorem total_append (A B : List (List Int)) : total (A ++ B) = total A + total B := by
  induction A with
  | nil => simp [total]
  | cons l A ih => simp [total, ih]; omega
/-- Marks, row by row. -/
def marksSS (m : Int) : List (List Int) → List (List Int)
  | [] => []
  | l :: L => marks m l.length :: marksSS (m + l.length) L
theorem marksSS_length (m : Int) (L : List (List Int)) : (marksSS m L).length = L.length := by
  induction L generalizing m with
  | nil => rfl
  | cons l L ih => simp [marksSS, ih]
theorem marksSS_append (m : Int) (A B : List (List Int)) : marksSS m (A ++ B) = marksSS m A ++ marksSS (m + total A) B := by
  induction A generalizing m with
  | nil => simp [marksSS, total]
  | cons l A ih =>
    have e : m + (l.length : Int) + (total A : Int) = m + (total (l :: A) : Int) := by simp [total]; omega
    simp only [List.cons_append, marksSS, ih, e]
theorem total_marksSS (m : Int) (L : List (List Int)) : total (marksSS m L) = total L := by
  induction L generalizing m with
  | nil => rfl
  | cons l L ih => simp [marksSS, total, ih, marks_length]
theorem total_at {L : List (List Int)} {j : Nat} (hj : j < L.length) : (L.getD j []).length ≤ total L := by
  induction L generalizing j with
  | nil => simp at hj
  | cons l L ih =>
    cases j with
    | zero => simp [total]
    | succ j => have := ih (j := j) (by simpa using hj); simp [total] at this ⊢; omega
theorem total_len_pos (L : List (List Int)) (h : ∀ l ∈ L, l ≠ []) : L.length ≤ total L := by
  induction L with
  | nil => simp
  | cons l L ih =>
    have h1 : 0 < l.length := List.length_pos_iff.2 (h l (by simp))
    have h2 := ih fun x hx => h x (by simp [hx])
    simp [total]
    omega

end Go.Proofs.Yteoggoopfjkdkaa
