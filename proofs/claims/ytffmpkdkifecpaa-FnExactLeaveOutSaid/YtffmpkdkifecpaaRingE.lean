/-
  The contracts of BreakLink.
-/
import Derived.Test.YtffmpkdkifecpaaRStep
import Derived.Test.YtffmpkdkifecpaaSearch
import Derived.Test.YtffmpkdkifecpaaCat
import Derived.Test.YtffmpkdkifecpaaAcc
import Derived.Deep.RegionHeld3
import Derived.Deep.DeepCutAuto
import Derived.RegionTactic
import Derived.BigRegion
namespace Go.Proofs.Ytffmpkdkifecpaa
open Go.RowKit
set_option maxRecDepth 100000
set_option linter.unusedVariables false

theorem Rises.ss {hi : Int} {l : List Int} (h : Rises hi l l.length) : SS l := SS.of fun j h0 hj => (h j hj).2.2 h0
/-- What BreakLink says. -/
def breakLk (x : Rg) (t : Int) : Rg × Bool := if (isRg x && wi t 0 (x.k - 1)) = true ∧ hasI x.d t = false then (⟨x.k, putI x.d t⟩, true) else (RgZero, false)
theorem breakLk_len (x : Rg) (t : Int) : (breakLk x t).1.d.length ≤ 1048576 := by
  unfold breakLk
  split
  · next h =>
    have h1 : isRg x = true := by simpa using (Bool.and_eq_true _ _ ▸ h.1).1
    have := isRg_len h1
    simp only [putI_len]
    omega
  · simp [RgZero]
theorem rg_zeroed {w w5 : World} {g : Nat} (hg : w.heap.size ≤ g) (h : Below w.heap.size w w5) (u v : Value) : Below w.heap.size w ((w5.setCell ⟨g, 0, none⟩ u).setCell ⟨g, 1, none⟩ v) :=
  (h.setCell (p := ⟨g, 0, none⟩) hg _).setCell (p := ⟨g, 1, none⟩) hg _
theorem RI.tail {w : World} {B : Nat} {A : Option Addr} {n c : Nat} {l : List Int} (h : RI w B (.slice A n c) l) (k : Nat) (hk : k ≤ l.length) : RI w B (.slice (if c = k then A else Option.map (fun x => x.add k) A) (l.length - k) (c - k)) (l.drop k) := by
  obtain ⟨A', c', hv, hlc, hc⟩ := h
  injection hv with h1 h2 h3
  subst h1; subst h2; subst h3
  refine ⟨_, c - k, by rw [List.length_drop], ⟨by rw [List.length_drop]; omega, by omega, fun hA => ?_⟩, fun h0 => ?_⟩
  · have h5 : A = none := by
      split at hA
      · exact hA
      · cases A with
        | none => rfl
        | some a => cases hA
    have := hlc.2.2 h5
    omega
  · rw [List.length_drop] at h0
    obtain ⟨b, off, hA, hb, hcell⟩ := hc (by omega)
    refine ⟨b, off + k, ?_, hb, fun j hj => ?_⟩
    · rw [if_neg (by omega), hA]
      simp [addr_add]
    · rw [List.length_drop] at hj
      rw [Nat.add_assoc, hcell (k + j) (by omega)]
      congr 2
      simp [List.getD]
theorem ri_shape {w : World} {B : Nat} {v : Value} {l : List Int} (h : RI w B v l) : RI w B v l ∧ (v = .slice none 0 0 ∨ ∃ ad n c, v = .slice (some ad) n c) := ⟨h, h.shape⟩
theorem breakLk_no {x : Rg} {t : Int} (h : ¬ ((isRg x && wi t 0 (x.k - 1)) = true ∧ hasI x.d t = false)) : breakLk x t = (RgZero, false) := by unfold breakLk; rw [if_neg h]
theorem breakLk_yes {x : Rg} {t : Int} (h : (isRg x && wi t 0 (x.k - 1)) = true) (h2 : hasI x.d t = false) : breakLk x t = (⟨x.k, putI x.d t⟩, true) := by unfold breakLk; rw [if_pos ⟨h, h2⟩]
end Go.Proofs.Ytffmpkdkifecpaa
