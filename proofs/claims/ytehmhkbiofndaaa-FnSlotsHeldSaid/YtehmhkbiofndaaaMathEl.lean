/-
  Mathematics of elections: names, the winner, links that a name is sent over, sums. No dump is imported.
-/
import Derived.Test.YtehmhkbiofndaaaWords
import Derived.Test.YtehmhkbiofndaaaMathRing
namespace Go.Proofs.Ytehmhkbiofndaaa
open Go.RowKit

/-- The numbers ahead of place k do not have the one at it. -/
def newAt (l : List Int) (k : Nat) : Bool := !hasI (l.take k) (l.getD k 0)
def allNew (l : List Int) : Nat → Bool
  | 0 => true
  | k + 1 => allNew l k && newAt l k
theorem allNew_le {l : List Int} {k m : Nat} (h : allNew l m = true) (hk : k < m) : newAt l k = true := by
  induction m with
  | zero => omega
  | succ m ih =>
    simp only [allNew, Bool.and_eq_true] at h
    by_cases hkm : k = m
    · exact hkm ▸ h.2
    · exact ih h.1 (by omega)
theorem allNew_no {l : List Int} {k m : Nat} (h : newAt l k = false) (hk : k < m) : allNew l m = false := by
  rcases hb : allNew l m with _ | _
  · rfl
  · have := allNew_le hb hk
    rw [h] at this
    cases this
/-- Different numbers at different places. -/
theorem allNew_ne {l : List Int} {m : Nat} (h : allNew l m = true) (hm : m ≤ l.length) {i j : Nat} (hi : i < m) (hj : j < m) (hij : i ≠ j) : l.getD i 0 ≠ l.getD j 0 := by
  have key : ∀ a b, a < b → b < m → l.getD a 0 ≠ l.getD b 0 := by
    intro a b hab hb he
    have h1 := allNew_le h hb
    unfold newAt at h1
    have h2 : hasI (l.take b) (l.getD b 0) = true := by
      rw [hasI_iff, ← he]
      have hlen : a < (l.take b).length := by simp; omega
      have e : l.getD a 0 = (l.take b)[a] := by simp [List.getD, show a < l.length by omega]
      rw [e]
      exact List.getElem_mem hlen
    rw [h2] at h1
    cases h1
  rcases Nat.lt_or_gt_of_ne hij with h1 | h1
  · exact key i j h1 hj
  · exact fun e => key j i h1 hi e.symm

/-- How far a name goes, where g k tells that the station k links on takes it out: from k links on, over at most m more. -/
def stopN (g : Nat → Bool) : Nat → Nat → Nat
  | k, 0 => k
  | k, m + 1 => if g (k + 1) = true then k + 1 else stopN g (k + 1) m
def ansN (g : Nat → Bool) : Nat → Nat → Bool
  | _, 0 => true
  | k, m + 1 => if g (k + 1) = true then false else ansN g (k + 1) m
theorem stopN_le (g : Nat → Bool) (k m : Nat) : k ≤ stopN g k m ∧ stopN g k m ≤ k + m := by
  induction m generalizing k with
  | zero => simp [stopN]
  | succ m ih =>
    rw [stopN]
    split
    · omega
    · have := ih (k + 1); omega
theorem stopN_congr {g h : Nat → Bool} {k m : Nat} (e : ∀ j, k < j → j ≤ k + m → g j = h j) : stopN g k m = stopN h k m := by
  induction m generalizing k with
  | zero => rfl
  | succ m ih =>
    rw [stopN, stopN, e (k + 1) (by omega) (by omega), ih fun j h1 h2 => e j (by omega) (by omega)]
/-- Names, their sum. -/
def sumL (l : List Int) : Int := l.foldl (· + ·) 0
theorem sumL_take (l : List Int) (k : Nat) (hk : k < l.length) : sumL (l.take (k + 1)) = sumL (l.take k) + l.getD k 0 := by
  unfold sumL
  rw [List.take_succ_eq_append_getElem hk, List.foldl_append]
  simp [hk]
theorem sumL_bound (l : List Int) (b : Int) (h : ∀ x ∈ l, 0 ≤ x ∧ x ≤ b) (k : Nat) (hk : k ≤ l.length) : 0 ≤ sumL (l.take k) ∧ sumL (l.take k) ≤ b * k := by
  induction k with
  | zero => simp [sumL]
  | succ k ih =>
    rw [sumL_take l k (by omega)]
    have h1 := ih (by omega)
    have h2 := h (l.getD k 0) (by simp [show k < l.length by omega])
    have e : b * ((k + 1 : Nat) : Int) = b * k + b := by rw [Int.natCast_add, Int.mul_add]; simp
    omega
/-- The first greatest one of the first k. -/
def winN (l : List Int) : Nat → Nat
  | 0 => 0
  | k + 1 => if l.getD (winN l k) 0 < l.getD k 0 then k else winN l k
theorem winN_lt (l : List Int) (k : Nat) : winN l k < k + 1 ∧ (0 < k → winN l k < k) := by
  induction k with
  | zero => simp [winN]
  | succ k ih =>
    rw [winN]
    split
    · omega
    · refine ⟨by omega, fun _ => ?_⟩
      omega
theorem winN_top (l : List Int) (k : Nat) : (∀ j, j < k → l.getD j 0 ≤ l.getD (winN l k) 0) ∧ ∀ j, j < winN l k → l.getD j 0 < l.getD (winN l k) 0 := by
  induction k with
  | zero => simp [winN]
  | succ k ih =>
    rw [winN]
    split
    · rename_i h
      refine ⟨fun j hj => ?_, fun j hj => ?_⟩
      · by_cases hjk : j = k
        · rw [hjk]; exact Int.le_refl _
        · have := ih.1 j (by omega); omega
      · have := ih.1 j hj; omega
    · rename_i h
      refine ⟨fun j hj => ?_, ih.2⟩
      by_cases hjk : j = k
      · rw [hjk]; omega
      · exact ih.1 j (by omega)
/-- The first place of the greatest number is the winner's. -/
theorem winN_is {l : List Int} {k r : Nat} {m : Int} (hk : 0 < k) (hm : ∀ j, j < k → l.getD j 0 ≤ m) (hr : r < k) (he : l.getD r 0 = m) (hf : ∀ j, j < r → l.getD j 0 ≠ m) : r = winN l k := by
  have h1 := winN_top l k
  have h2 := (winN_lt l k).2 hk
  have h3 := h1.1 r hr
  have h4 := hm _ h2
  rcases Nat.lt_trichotomy r (winN l k) with h | h | h
  · have := h1.2 r h; omega
  · exact h
  · exact absurd (by omega) (hf _ h)
end Go.Proofs.Ytehmhkbiofndaaa
