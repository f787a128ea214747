/-
  The contracts of TurnRing.
-/
import Derived.Test.YtffmpkdkifecpaaRenum
namespace Go.Proofs.Ytffmpkdkifecpaa
open Go.RowKit
set_option maxRecDepth 100000
set_option linter.unusedVariables false

def turnF (k t y : Int) : Int := (y + t) % k
/-- What TurnRing says. -/
def turnRg (x : Rg) (t : Int) : Rg × Bool := if (isRg x && wi t 0 (x.k - 1)) = true then (⟨x.k, setL (x.d.map (turnF x.k t))⟩, true) else (RgZero, false)
theorem turnRg_no {x : Rg} {t : Int} (h : (isRg x && wi t 0 (x.k - 1)) = false) : turnRg x t = (RgZero, false) := by unfold turnRg; rw [if_neg (by rw [h]; simp)]
theorem turnRg_yes {x : Rg} {t : Int} (h : (isRg x && wi t 0 (x.k - 1)) = true) : turnRg x t = (⟨x.k, setL (x.d.map (turnF x.k t))⟩, true) := by unfold turnRg; rw [if_pos h]
theorem turnRg_len (x : Rg) (t : Int) : (turnRg x t).1.d.length ≤ 1048576 := by
  unfold turnRg
  split
  · next h =>
    have h1 : isRg x = true := (Bool.and_eq_true _ _ ▸ h).1
    have := isRg_len h1
    have := setL_len (x.d.map (turnF x.k t))
    rw [List.length_map] at this
    show (setL _).length ≤ _
    omega
  · simp [RgZero]
theorem isRg_mem {x : Rg} (h : isRg x = true) {y : Int} (hy : y ∈ x.d) : 0 ≤ y ∧ y < x.k := by
  obtain ⟨j, hj, e⟩ := List.getElem_of_mem hy
  have := isRg_d h j hj
  have e2 : x.d.getD j 0 = y := by simp [hj, e]
  omega
theorem turnF_in {k t y : Int} (hk : 2 ≤ k) : 0 ≤ turnF k t y ∧ turnF k t y < k := ⟨Int.emod_nonneg _ (by omega), Int.emod_lt_of_pos _ (by omega)⟩
theorem turnF_eq {k t y : Int} (ht : 0 ≤ t ∧ t < k) (hy : 0 ≤ y ∧ y < k) : turnF k t y = if y + t < k then y + t else y + t - k := by
  unfold turnF
  split
  · exact Int.emod_eq_of_lt (by omega) (by omega)
  · rw [← Int.emod_eq_of_lt (show 0 ≤ y + t - k by omega) (show y + t - k < k by omega), Int.sub_emod, Int.emod_self, Int.sub_zero, Int.emod_emod]
theorem turnF_inj {k t y z : Int} (ht : 0 ≤ t ∧ t < k) (hy : 0 ≤ y ∧ y < k) (hz : 0 ≤ z ∧ z < k) (h : turnF k t y = turnF k t z) : y = z := by
  rw [turnF_eq ht hy, turnF_eq ht hz] at h
  split at h <;> split at h <;> omega
/-- What comes next was not there before. -/
theorem map_new {d : List Int} (hs : SS d) (f : Int → Int) (hf : ∀ y ∈ d, ∀ z ∈ d, f y = f z → y = z) (j : Nat) (hj : j < d.length) : f (d.getD j 0) ∉ (d.take j).map f := by
  intro hm
  obtain ⟨y, hy, e⟩ := List.mem_map.1 hm
  obtain ⟨i, hi, e2⟩ := List.getElem_of_mem hy
  have hg : d.getD j 0 = d[j] := by simp [hj]
  rw [List.length_take] at hi
  rw [List.getElem_take] at e2
  have h1 := hf y (by rw [← e2]; exact List.getElem_mem _) (d.getD j 0) (by rw [hg]; exact List.getElem_mem hj) e
  have h2 := List.pairwise_iff_getElem.1 hs i j (by omega) hj (by omega)
  rw [e2, h1, hg] at h2
  omega

theorem rg_boxed {w : World} {g : Nat} {A : Option Addr} {n c : Nat} {k : Int} {T : TypeId} {w5 : World} (h : BK w5 g T #[.int .i64 k, .slice A n c]) : w5.cell? ⟨g, 0, none⟩ = some (.int .i64 k) := h.cell 0

end Go.Proofs.Ytffmpkdkifecpaa
