/-
  WireOf: plain mathematics on it.
-/
import Derived.Test.YtkaemocojgmlnaaDoorBytesOf
import Derived.Test.YtkaemocojgmlnaaDoorBits
import Derived.Test.YtkaemocojgmlnaaDoorStuff
namespace Go.Proofs.YtkaemocojgmlnaaDoor
open Go.RowKit
set_option maxRecDepth 100000
set_option linter.unusedVariables false

/-- The bits of a flag; of a frame on the wire. -/
def flagL : List Int := [0, 1, 1, 1, 1, 1, 1, 0]
def wireF (x : Fr) : List Int := flagL ++ stuffOf (bitsL (bytesF x)) ++ flagL
/-- What WireOf says. -/
def wireOf (x : Fr) : List Int × Bool := if isFr x = true then (wireF x, true) else ([], false)
theorem wireOf_yes {x : Fr} (h : isFr x = true) : wireOf x = (wireF x, true) := by unfold wireOf; rw [if_pos h]
theorem wireOf_no {x : Fr} (h : isFr x = false) : wireOf x = ([], false) := by unfold wireOf; rw [if_neg (by simp [h])]
theorem bytesF_ok {x : Fr} (h : isFr x = true) : okAll 0 255 (bytesF x) = true := by
  unfold bytesF
  refine okAll_append (preF_ok h) ?_
  have := chk_lt_take (preF x) (fun j hj => okAll_at (preF_ok h) j hj) _ (Nat.le_refl _)
  rw [List.take_length] at this
  unfold okAll
  simp
  omega
theorem bitsB_ok (b : Nat) : okAll 0 1 (bitsB b) = true := by
  unfold okAll bitsB bitAt
  rw [List.all_eq_true]
  intro y hy
  obtain ⟨j, _, rfl⟩ := List.mem_map.1 hy
  simp only [decide_eq_true_eq]
  omega
theorem bitsL_ok (l : List Int) : okAll 0 1 (bitsL l) = true := by
  induction l with
  | nil => rfl
  | cons x l ih =>
    have e : bitsL (x :: l) = bitsB x.toNat ++ bitsL l := rfl
    rw [e]
    exact okAll_append (bitsB_ok _) ih
theorem wire_lens {x : Fr} (h : isFr x = true) : (bytesF x).length ≤ 19 ∧ (bitsL (bytesF x)).length ≤ 152 ∧ (stuffOf (bitsL (bytesF x))).length ≤ 304 := by
  have h1 := bytesF_length x
  have h2 := (isFr_parts h).2.2.2.1
  have h3 := bitsL_length (bytesF x)
  have h4 := stuffOf_len (bitsL (bytesF x))
  omega
theorem wireOf_len (x : Fr) : (wireOf x).1.length ≤ 1048576 := by
  cases h : isFr x
  · rw [wireOf_no h]; simp
  · rw [wireOf_yes h]
    have := wire_lens h
    show (wireF x).length ≤ _
    unfold wireF flagL
    simp
    omega
end Go.Proofs.YtkaemocojgmlnaaDoor
