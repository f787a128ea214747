/-
  Plain mathematics: the broken links of a ring that leaves a station out. No dump is imported.
-/
import Derived.Test.YtffmpkdkifecpaaMathSet
import Derived.Test.YtffmpkdkifecpaaMathRing
namespace Go.Proofs.Ytffmpkdkifecpaa
open Go.RowKit
set_option maxRecDepth 100000
set_option linter.unusedVariables false

/-- What becomes of a link's number where station s is left out. -/
def outF (k s y : Int) : Int := if s < (if y = s then bf k s else y) then (if y = s then bf k s else y) - 1 else (if y = s then bf k s else y)
/-- Is link i, in its new number, one of the new ring's broken ones? -/
def keepL (k : Int) (d : List Int) (s i : Int) : Bool := i != s && (if i = bf k s then (hasI d s || hasI d (bf k s)) else hasI d i)
def newL (s i : Int) : Int := if s < i then i - 1 else i
/-- The new broken links so far. -/
def leftL (k : Int) (d : List Int) (s : Int) (j : Nat) : List Int := ((List.range j).filter fun (i : Nat) => keepL k d s (i : Int)).map fun (i : Nat) => newL s (i : Int)
theorem leftL_yes {k : Int} {d : List Int} {s : Int} {j : Nat} (h : keepL k d s j = true) : leftL k d s (j + 1) = leftL k d s j ++ [newL s j] := by
  simp [leftL, List.range_succ, h]
theorem leftL_no {k : Int} {d : List Int} {s : Int} {j : Nat} (h : keepL k d s j = false) : leftL k d s (j + 1) = leftL k d s j := by
  simp [leftL, List.range_succ, h]
theorem mem_leftL {k : Int} {d : List Int} {s x : Int} {j : Nat} : x ∈ leftL k d s j ↔ ∃ i : Nat, i < j ∧ keepL k d s i = true ∧ newL s i = x := by
  simp only [leftL, List.mem_map, List.mem_filter, List.mem_range]
  constructor
  · rintro ⟨i, ⟨h1, h2⟩, h3⟩; exact ⟨i, h1, h2, h3⟩
  · rintro ⟨i, h1, h2, h3⟩; exact ⟨i, ⟨h1, h2⟩, h3⟩
theorem keepL_ne {k : Int} {d : List Int} {s i : Int} (h : keepL k d s i = true) : i ≠ s := by
  unfold keepL at h
  rw [Bool.and_eq_true] at h
  simpa using h.1
theorem leftL_new {k : Int} {d : List Int} {s : Int} {j : Nat} (h : keepL k d s j = true) : newL s j ∉ leftL k d s j := by
  intro hm
  obtain ⟨i, hi, hk, he⟩ := mem_leftL.1 hm
  have h1 := keepL_ne h
  have h2 := keepL_ne hk
  unfold newL at he
  split at he <;> split at he <;> omega
theorem leftL_len (k : Int) (d : List Int) (s : Int) (j : Nat) : (leftL k d s j).length ≤ j := by
  unfold leftL
  rw [List.length_map]
  exact Nat.le_trans (List.length_filter_le _ _) (by simp)
theorem leftL_all {k : Int} {d : List Int} {s : Int} {K : Nat} (hK : k = (K : Int)) (hk : 2 ≤ k) (hs : 0 ≤ s ∧ s < k) (hd : ∀ y ∈ d, 0 ≤ y ∧ y < k) : setL (leftL k d s K) = setL (d.map (outF k s)) := by
  refine (setL_SS _).one (setL_SS _) fun x => ?_
  rw [mem_setL, mem_setL, mem_leftL, List.mem_map]
  have hb := bf_in hs.1 hs.2
  have hbs : bf k s ≠ s := by rw [bf_eq hs.1 hs.2]; split <;> omega
  constructor
  · rintro ⟨i, hi, hkp, rfl⟩
    have hne := keepL_ne hkp
    unfold keepL at hkp
    rw [Bool.and_eq_true] at hkp
    by_cases hib : (i : Int) = bf k s
    · rw [if_pos hib, Bool.or_eq_true] at hkp
      rcases hkp.2 with h | h
      · refine ⟨s, hasI_iff.1 h, ?_⟩
        unfold outF newL
        rw [if_pos rfl, hib]
      · refine ⟨bf k s, hasI_iff.1 h, ?_⟩
        unfold outF newL
        rw [if_neg hbs, hib]
    · rw [if_neg hib] at hkp
      refine ⟨i, hasI_iff.1 hkp.2, ?_⟩
      unfold outF newL
      rw [if_neg hne]
  · rintro ⟨y, hy, rfl⟩
    have hyb := hd y hy
    by_cases hys : y = s
    · refine ⟨(bf k s).toNat, by omega, ?_, ?_⟩
      · unfold keepL
        rw [Int.toNat_of_nonneg hb.1, if_pos rfl, Bool.and_eq_true]
        refine ⟨by simpa using hbs, ?_⟩
        rw [Bool.or_eq_true]
        exact .inl (hasI_iff.2 (hys ▸ hy))
      · unfold outF newL
        rw [Int.toNat_of_nonneg hb.1, if_pos hys]
    · refine ⟨y.toNat, by omega, ?_, ?_⟩
      · unfold keepL
        rw [Int.toNat_of_nonneg hyb.1, Bool.and_eq_true]
        refine ⟨by simpa using hys, ?_⟩
        split
        · next e => rw [Bool.or_eq_true]; exact .inr (hasI_iff.2 (e ▸ hy))
        · exact hasI_iff.2 hy
      · unfold outF newL
        rw [Int.toNat_of_nonneg hyb.1, if_neg hys]
end Go.Proofs.Ytffmpkdkifecpaa
