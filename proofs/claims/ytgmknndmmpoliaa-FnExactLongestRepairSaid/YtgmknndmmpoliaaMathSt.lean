/-
  Mathematics of states: who holds a token, firings, runs. No dump is imported.
-/
import Derived.Test.YtgmknndmmpoliaaWords
import Derived.Test.YtgmknndmmpoliaaMathRing
namespace Go.Proofs.Ytgmknndmmpoliaa
open Go.RowKit

/-- Does the station s hold a token? -/
def holdB (l : List Int) (s : Nat) : Bool := if s = 0 then l.getD 0 0 == l.getD (l.length - 1) 0 else l.getD s 0 != l.getD (s - 1) 0
/-- The holders among the first k. -/
def holdN (l : List Int) : Nat → List Int
  | 0 => []
  | k + 1 => if holdB l k = true then holdN l k ++ [(k : Int)] else holdN l k
theorem holdN_yes {l : List Int} {k : Nat} (h : holdB l k = true) : holdN l (k + 1) = holdN l k ++ [(k : Int)] := by rw [holdN, if_pos h]
theorem holdN_no {l : List Int} {k : Nat} (h : holdB l k = false) : holdN l (k + 1) = holdN l k := by rw [holdN, if_neg (by rw [h]; simp)]
theorem holdN_len (l : List Int) (k : Nat) : (holdN l k).length ≤ k := by
  induction k with
  | zero => simp [holdN]
  | succ k ih =>
    rw [holdN]
    split
    · simp; omega
    · omega
theorem holdN_mem (l : List Int) (k : Nat) (x : Int) : x ∈ holdN l k ↔ ∃ s : Nat, s < k ∧ holdB l s = true ∧ x = (s : Int) := by
  induction k with
  | zero => simp [holdN]
  | succ k ih =>
    rw [holdN]
    split
    · rename_i h
      rw [List.mem_append, ih, List.mem_singleton]
      constructor
      · rintro (⟨s, h1, h2, h3⟩ | h1)
        · exact ⟨s, by omega, h2, h3⟩
        · exact ⟨k, by omega, h, h1⟩
      · rintro ⟨s, h1, h2, h3⟩
        by_cases hs : s = k
        · exact .inr (hs ▸ h3)
        · exact .inl ⟨s, by omega, h2, h3⟩
    · rename_i h
      rw [ih]
      constructor
      · rintro ⟨s, h1, h2, h3⟩
        exact ⟨s, by omega, h2, h3⟩
      · rintro ⟨s, h1, h2, h3⟩
        by_cases hs : s = k
        · subst hs; exact absurd h2 h
        · exact ⟨s, by omega, h2, h3⟩
/-- There always is a holder. -/
theorem holdN_pos (l : List Int) (hl : 0 < l.length) : 0 < (holdN l l.length).length := by
  refine Nat.pos_of_ne_zero fun h0 => ?_
  have hno : ∀ s, s < l.length → holdB l s = false := by
    intro s hs
    cases hb : holdB l s
    · rfl
    · have : (s : Int) ∈ holdN l l.length := (holdN_mem l _ _).2 ⟨s, hs, hb, rfl⟩
      rw [List.eq_nil_of_length_eq_zero h0] at this
      simp at this
  have hall : ∀ s, s < l.length → l.getD s 0 = l.getD 0 0 := by
    intro s
    induction s with
    | zero => intro _; rfl
    | succ s ih =>
      intro hs
      have h1 := hno (s + 1) hs
      simp only [holdB, Nat.add_one_ne_zero, if_false, Nat.add_sub_cancel] at h1
      have h2 : l.getD (s + 1) 0 = l.getD s 0 := by simpa using h1
      rw [h2, ih (by omega)]
  have h1 := hno 0 hl
  simp only [holdB, if_true] at h1
  rw [hall (l.length - 1) (by omega)] at h1
  simp at h1
theorem holdN_at (l : List Int) (k j : Nat) (hj : j < (holdN l k).length) : ∃ s : Nat, s < k ∧ holdB l s = true ∧ (holdN l k).getD j 0 = (s : Int) := by
  have hm : (holdN l k).getD j 0 ∈ holdN l k := by simp [List.getD, hj]
  exact (holdN_mem l k _).1 hm
/-- The states behind a firing. -/
def fireL (l : List Int) (k : Int) (s : Nat) : List Int := if s = 0 then l.set 0 ((l.getD 0 0 + 1) % k) else l.set s (l.getD (s - 1) 0)
theorem fireL_length (l : List Int) (k : Int) (s : Nat) : (fireL l k s).length = l.length := by unfold fireL; split <;> simp
/-- Numbers in 0..k - 1. -/
def InK (l : List Int) (k : Int) : Prop := ∀ x ∈ l, 0 ≤ x ∧ x < k
theorem InK.at {l : List Int} {k : Int} (h : InK l k) (j : Nat) (hj : j < l.length) : 0 ≤ l.getD j 0 ∧ l.getD j 0 < k := h _ (by simp [List.getD, hj])
theorem InK.fire {l : List Int} {k : Int} (h : InK l k) (hk : 2 ≤ k) (s : Nat) (hs : s < l.length) : InK (fireL l k s) k := by
  intro x hx
  unfold fireL at hx
  split at hx
  · rcases List.mem_or_eq_of_mem_set hx with h1 | h1
    · exact h x h1
    · rw [h1]
      exact ⟨Int.emod_nonneg _ (by omega), Int.emod_lt_of_pos _ (by omega)⟩
  · rcases List.mem_or_eq_of_mem_set hx with h1 | h1
    · exact h x h1
    · rw [h1]
      exact h.at _ (by omega)
/-- The holder that fires. -/
def chosen (l : List Int) (c : Int) : Nat := ((holdN l l.length).getD (c.toNat % (holdN l l.length).length) 0).toNat
theorem chosen_is (l : List Int) (c : Int) (hl : 0 < l.length) : chosen l c < l.length ∧ (holdN l l.length).getD (c.toNat % (holdN l l.length).length) 0 = ((chosen l c : Nat) : Int) := by
  obtain ⟨s, h1, _, h2⟩ := holdN_at l l.length (c.toNat % (holdN l l.length).length) (Nat.mod_lt _ (holdN_pos l hl))
  unfold chosen
  rw [h2]
  simp [h1]
def stepL (k : Int) (l : List Int) (c : Int) : List Int := fireL l k (chosen l c)
/-- The states behind j choices. -/
def curN (l : List Int) (k : Int) (cs : List Int) : Nat → List Int
  | 0 => l
  | j + 1 => stepL k (curN l k cs j) (cs.getD j 0)
def runN (l : List Int) (k : Int) (cs : List Int) : Nat → List (List Int)
  | 0 => [l]
  | j + 1 => runN l k cs j ++ [curN l k cs (j + 1)]
theorem curN_len (l : List Int) (k : Int) (cs : List Int) (j : Nat) : (curN l k cs j).length = l.length := by
  induction j with
  | zero => rfl
  | succ j ih => rw [curN, stepL, fireL_length, ih]
theorem curN_in {l : List Int} {k : Int} (cs : List Int) (h : InK l k) (hk : 2 ≤ k) (hl : 0 < l.length) (j : Nat) : InK (curN l k cs j) k := by
  induction j with
  | zero => exact h
  | succ j ih =>
    rw [curN, stepL]
    exact ih.fire hk _ (by have := (chosen_is (curN l k cs j) (cs.getD j 0) (by rw [curN_len]; exact hl)).1; exact this)
theorem runN_len (l : List Int) (k : Int) (cs : List Int) (j : Nat) : (runN l k cs j).length = j + 1 := by
  induction j with
  | zero => rfl
  | succ j ih => rw [runN, List.length_append, ih]; rfl
theorem runN_at (l : List Int) (k : Int) (cs : List Int) (j i : Nat) (hi : i ≤ j) : (runN l k cs j).getD i [] = curN l k cs i := by
  induction j with
  | zero => obtain rfl : i = 0 := by omega
            rfl
  | succ j ih =>
    rw [runN, List.getD_eq_getElem?_getD]
    by_cases h : i = j + 1
    · subst h
      rw [List.getElem?_append_right (by rw [runN_len]; omega), runN_len]
      simp
    · rw [List.getElem?_append_left (by rw [runN_len]; omega), ← List.getD_eq_getElem?_getD, ih (by omega)]
theorem runN_row (l : List Int) (k : Int) (cs : List Int) (j : Nat) : ∀ x ∈ runN l k cs j, x.length = l.length := by
  induction j with
  | zero => intro x hx; simp [runN] at hx; rw [hx]
  | succ j ih =>
    intro x hx
    rw [runN, List.mem_append] at hx
    rcases hx with h | h
    · exact ih x h
    · simp at h; rw [h, curN_len]
end Go.Proofs.Ytgmknndmmpoliaa
