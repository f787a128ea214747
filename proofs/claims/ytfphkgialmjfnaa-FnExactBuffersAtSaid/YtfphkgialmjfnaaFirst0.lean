/-
  The first cell of a station that waits; rows of values. Pure.
-/
import Derived.Test.YtfphkgialmjfnaaTabl
namespace Go.Proofs.Ytfphkgialmjfnaa
open Go.RowKit
set_option maxRecDepth 100000
set_option linter.unusedVariables false

theorem find_rangeI (p : Nat → Bool) (n j : Nat) (hj : j < n) (hp : p j = true) (hno : ∀ i, i < j → p i = false) : (List.range n).find? p = some j := by
  induction n with
  | zero => omega
  | succ n ih =>
    rw [List.range_succ, List.find?_append]
    by_cases e : j = n
    · subst e
      have : (List.range j).find? p = none := by
        rw [List.find?_eq_none]
        intro x hx
        rw [hno x (by simpa using hx)]
        simp
      rw [this]
      simp [hp]
    · rw [ih (by omega)]
      rfl
theorem find_rangeI_none (p : Nat → Bool) (n : Nat) (hno : ∀ i, i < n → p i = false) : (List.range n).find? p = none := by
  rw [List.find?_eq_none]
  intro x hx
  rw [hno x (by simpa using hx)]
  simp
/-- Whether a cell waits, in ints. -/
def waitsC (l : List Ms) (F : Nat → Int) (s t : Nat) (i : Nat) : Prop := l[i]!.f = (s : Int) ∧ l[i]!.t ≤ (t : Int) ∧ F i < 0
theorem nextI_some {x : Ir} {l : List Ms} {F : Nat → Int} {s t j : Nat} (hall : ∀ y ∈ l, MsIn x.n y) (hj : j < l.length) (hw : waitsC l F s t j) (hno : ∀ i, i < j → ¬ waitsC l F s t i) : (iwOf x l).sw.next F s t = some j := by
  have key : ∀ i, i < l.length → (((iwOf x l).sw.fr i = s ∧ (iwOf x l).sw.tk i ≤ t ∧ F i < 0) ↔ waitsC l F s t i) := by
    intro i hi
    obtain ⟨h1, _, h2, _⟩ := msAtI hall i hi
    unfold waitsC iwOf swI
    simp only
    constructor <;> (rintro ⟨a, b, c⟩; exact ⟨by omega, by omega, c⟩)
  unfold Sw.next
  refine find_rangeI _ _ j hj (by simpa using (key j hj).2 hw) fun i hi => ?_
  have := hno i hi
  rw [← key i (by omega)] at this
  simpa using this
theorem nextI_none {x : Ir} {l : List Ms} {F : Nat → Int} {s t : Nat} (hall : ∀ y ∈ l, MsIn x.n y) (hno : ∀ i, i < l.length → ¬ waitsC l F s t i) : (iwOf x l).sw.next F s t = none := by
  unfold Sw.next
  refine find_rangeI_none _ _ fun i hi => ?_
  have hi : i < l.length := hi
  have := hno i hi
  obtain ⟨h1, _, h2, _⟩ := msAtI hall i hi
  unfold waitsC at this
  simp only [iwOf, swI]
  refine decide_eq_false ?_
  rintro ⟨a, b, c⟩
  exact this ⟨by omega, by omega, c⟩
theorem toNat_in6 {z : Int} (h : 2 ≤ z ∧ z ≤ 12) : z.toNat ≤ 12 ∧ 2 ≤ z.toNat := by omega
def nJ (l : List Nat) : List Int := l.map fun c : Nat => (c : Int)
@[simp] theorem nJ_length (l : List Nat) : (nJ l).length = l.length := by simp [nJ]
theorem nJ_at (l : List Nat) (j : Nat) (h : j < l.length) : (nJ l).getD j 0 = ((l.getD j 0 : Nat) : Int) := by simp [nJ, List.getD_eq_getElem?_getD, h]
def rowI (n : Nat) (f : Nat → Value) : Array Value := ((List.range n).map f).toArray
theorem rowI_at (n : Nat) (f : Nat → Value) (i : Nat) (hi : i < n) : (rowI n f)[i]? = some (f i) := by simp [rowI, hi]
theorem rowI_size (n : Nat) (f : Nat → Value) : (rowI n f).size = n := by simp [rowI]
theorem rowI_put (n : Nat) (f : Nat → Value) (j : Nat) (v : Value) : (rowI n f).setIfInBounds j v = rowI n (up f j v) := by
  apply Array.ext_getElem?
  intro i
  rw [Array.getElem?_setIfInBounds]
  by_cases hi : i < n
  · rw [rowI_at _ _ _ hi, rowI_at _ _ _ hi, rowI_size]
    unfold up
    by_cases e : j = i
    · subst e; simp [hi]
    · rw [if_neg e, if_neg (fun h => e h.symm)]
  · have e1 : ∀ f, (rowI n f)[i]? = none := fun f => by rw [Array.getElem?_eq_none]; rw [rowI_size]; omega
    rw [e1, e1, rowI_size]
    split
    · rw [if_neg (by omega)]
    · rfl
end Go.Proofs.Ytfphkgialmjfnaa
