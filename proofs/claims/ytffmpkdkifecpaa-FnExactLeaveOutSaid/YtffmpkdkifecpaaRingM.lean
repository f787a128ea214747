/-
  The contracts of MendLink.
-/
import Derived.Test.YtffmpkdkifecpaaPut
import Derived.Deep.RegionWith
namespace Go.Proofs.Ytffmpkdkifecpaa
open Go.RowKit
set_option maxRecDepth 100000
set_option linter.unusedVariables false

/-- What MendLink says. -/
def mendLk (x : Rg) (t : Int) : Rg × Bool := if (isRg x && wi t 0 (x.k - 1)) = true ∧ hasI x.d t = true then (⟨x.k, outI x.d t⟩, true) else (RgZero, false)
theorem mendLk_len (x : Rg) (t : Int) : (mendLk x t).1.d.length ≤ 1048576 := by
  unfold mendLk
  split
  · next h =>
    have h1 : isRg x = true := by simpa using (Bool.and_eq_true _ _ ▸ h.1).1
    have := isRg_len h1
    have := outI_len x.d t
    show (outI x.d t).length ≤ _
    omega
  · simp [RgZero]
theorem mendLk_no {x : Rg} {t : Int} (h : ¬ ((isRg x && wi t 0 (x.k - 1)) = true ∧ hasI x.d t = true)) : mendLk x t = (RgZero, false) := by unfold mendLk; rw [if_neg h]
theorem mendLk_yes {x : Rg} {t : Int} (h : (isRg x && wi t 0 (x.k - 1)) = true) (h2 : hasI x.d t = true) : mendLk x t = (⟨x.k, outI x.d t⟩, true) := by unfold mendLk; rw [if_pos ⟨h, h2⟩]
theorem Acc.far {E : TypeId} {w w' : World} {lo a b : Nat} {v : Value} {l : List Int} (h : Acc E w lo v l) (hg : Wr a b w w') (hb : b ≤ lo) : Acc E w' lo v l := by
  have h0 := h
  rcases h.2 with ⟨rfl, hn⟩ | ⟨g, c, cur, rfl, hgl, _⟩
  · exact ⟨h.1, .inl ⟨rfl, hn⟩⟩
  · exact row_far h0 hg (by omega)
end Go.Proofs.Ytffmpkdkifecpaa
