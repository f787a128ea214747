/-
  Plain mathematics: the pieces of a ring. No dump is imported.
-/
import Derived.Test.YtffmpkdkifecpaaMathRing
namespace Go.Proofs.Ytffmpkdkifecpaa
set_option maxRecDepth 100000
set_option linter.unusedVariables false

/-- The station j steps behind s, forwards; backwards. -/
def stF (k s : Int) (j : Nat) : Int := (s + j) % k
def stB (k s : Int) (j : Nat) : Int := (s - j) % k
theorem stF_in {k : Int} (hk : 0 < k) (s : Int) (j : Nat) : 0 ≤ stF k s j ∧ stF k s j < k := ⟨Int.emod_nonneg _ (by omega), Int.emod_lt_of_pos _ hk⟩
theorem stB_in {k : Int} (hk : 0 < k) (s : Int) (j : Nat) : 0 ≤ stB k s j ∧ stB k s j < k := ⟨Int.emod_nonneg _ (by omega), Int.emod_lt_of_pos _ hk⟩
theorem stF_zero {k s : Int} (h : 0 ≤ s ∧ s < k) : stF k s 0 = s := by unfold stF; simp; exact Int.emod_eq_of_lt h.1 h.2
theorem stB_zero {k s : Int} (h : 0 ≤ s ∧ s < k) : stB k s 0 = s := by unfold stB; simp; exact Int.emod_eq_of_lt h.1 h.2
theorem nx_stF {k s : Int} (j : Nat) : nx k (stF k s j) = stF k s (j + 1) := by
  unfold nx stF
  rw [Int.emod_add_emod]
  congr 1
  omega
theorem bf_stB {k s : Int} (j : Nat) : bf k (stB k s j) = stB k s (j + 1) := by
  unfold bf stB
  have e : (s - j) % k + k - 1 = (s - j) % k + (k - 1) := by omega
  rw [e, Int.emod_add_emod]
  have e2 : s - (j : Int) + (k - 1) = (s - ((j + 1 : Nat) : Int)) + k := by omega
  rw [e2, Int.add_emod_right]
theorem stF_back {k s : Int} (h : 0 ≤ s ∧ s < k) {j : Nat} (hj : 0 < j) (hjk : (j : Int) ≤ k) : stF k s j = s ↔ (j : Int) = k := by
  unfold stF
  constructor
  · intro e
    rcases Int.lt_or_le (s + j) k with h1 | h1
    · rw [Int.emod_eq_of_lt (by omega) h1] at e; omega
    · have e2 : (s + (j : Int)) % k = s + j - k := by rw [← Int.sub_emod_right, Int.emod_eq_of_lt (by omega) (by omega)]
      omega
  · intro e
    rw [e, Int.add_emod_right, Int.emod_eq_of_lt h.1 h.2]
theorem stB_back {k s : Int} (h : 0 ≤ s ∧ s < k) {j : Nat} (hj : 0 < j) (hjk : (j : Int) ≤ k) : stB k s j = s ↔ (j : Int) = k := by
  unfold stB
  constructor
  · intro e
    rcases Int.lt_or_le (s - j) 0 with h1 | h1
    · have e2 : (s - (j : Int)) % k = s - j + k := by rw [← Int.add_emod_right, Int.emod_eq_of_lt (by omega) (by omega)]
      omega
    · rw [Int.emod_eq_of_lt h1 (by omega)] at e; omega
  · intro e
    rw [e, Int.sub_emod_right, Int.emod_eq_of_lt h.1 h.2]
theorem gap_stB {k s : Int} {j : Nat} (hk : 0 < k) (hj : (j : Int) < k) : (s - stB k s j) % k = j := by
  unfold stB
  rw [Int.sub_emod, Int.emod_emod_of_dvd _ (Int.dvd_refl k), ← Int.sub_emod, show s - (s - (j : Int)) = j from by omega]
  exact Int.emod_eq_of_lt (by omega) hj
theorem gap_stF {k s : Int} {j : Nat} (hk : 0 < k) (hj : (j : Int) < k) : (stF k s j - s) % k = j := by
  unfold stF
  rw [Int.sub_emod, Int.emod_emod_of_dvd _ (Int.dvd_refl k), ← Int.sub_emod, show s + (j : Int) - s = j from by omega]
  exact Int.emod_eq_of_lt (by omega) hj
/-- How long the run forwards from s is, n steps being still allowed behind j. -/
def runL (d : List Int) (k s : Int) : Nat → Nat → Nat
  | 0, j => j + 1
  | n + 1, j => if hasI d (stF k s j) then j + 1 else runL d k s n (j + 1)
/-- Where one comes backwards from s. -/
def firL (d : List Int) (k s : Int) : Nat → Nat → Int
  | 0, j => if hasI d (stB k s (j + 1)) then stB k s j else s
  | n + 1, j => if hasI d (stB k s (j + 1)) then stB k s j else firL d k s n (j + 1)
theorem firL_yes {d : List Int} {k s : Int} {n j : Nat} (h : hasI d (stB k s (j + 1)) = true) : firL d k s n j = stB k s j := by cases n <;> simp [firL, h]
theorem firL_last {d : List Int} {k s : Int} {j : Nat} (h : hasI d (stB k s (j + 1)) = false) : firL d k s 0 j = s := by simp [firL, h]
theorem firL_next {d : List Int} {k s : Int} {n j : Nat} (h : hasI d (stB k s (j + 1)) = false) : firL d k s (n + 1) j = firL d k s n (j + 1) := by simp [firL, h]
theorem runL_yes {d : List Int} {k s : Int} {n j : Nat} (h : hasI d (stF k s j) = true) : runL d k s n j = j + 1 := by cases n <;> simp [runL, h]
theorem runL_last {d : List Int} {k s : Int} {j : Nat} : runL d k s 0 j = j + 1 := rfl
theorem runL_next {d : List Int} {k s : Int} {n j : Nat} (h : hasI d (stF k s j) = false) : runL d k s (n + 1) j = runL d k s n (j + 1) := by simp [runL, h]
def upL (k s : Int) (n : Nat) : List Int := (List.range n).map (stF k s)
theorem upL_succ (k s : Int) (n : Nat) : upL k s (n + 1) = upL k s n ++ [stF k s n] := by simp [upL, List.range_succ]
theorem upL_len (k s : Int) (n : Nat) : (upL k s n).length = n := by simp [upL]
def passL (d : List Int) (K : Nat) (s : Int) : List Int := upL K s (runL d K s (K - 1) 0)
def firstL (d : List Int) (K : Nat) (s : Int) : Int := firL d K s (K - 1) 0
theorem runL_le (d : List Int) (k s : Int) (n j : Nat) : runL d k s n j ≤ j + n + 1 ∧ j + 1 ≤ runL d k s n j := by
  induction n generalizing j with
  | zero => simp [runL]
  | succ n ih =>
    unfold runL
    split
    · omega
    · have := ih (j + 1); omega
theorem passL_len (d : List Int) (K : Nat) (s : Int) (hK : 0 < K) : 0 < (passL d K s).length ∧ (passL d K s).length ≤ K := by
  unfold passL
  rw [upL_len]
  have := runL_le d K s (K - 1) 0
  omega
theorem passL_in (d : List Int) (K : Nat) (s : Int) (hK : 0 < K) : ∀ x ∈ passL d K s, 0 ≤ x ∧ x < K := by
  intro x hx
  unfold passL upL at hx
  obtain ⟨j, _, rfl⟩ := List.mem_map.1 hx
  exact stF_in (by omega) s j
theorem firL_in (d : List Int) (k s : Int) (hs : 0 ≤ s ∧ s < k) (n j : Nat) : 0 ≤ firL d k s n j ∧ firL d k s n j < k := by
  induction n generalizing j with
  | zero => unfold firL; split; exact stB_in (by omega) s j; exact hs
  | succ n ih => unfold firL; split; exact stB_in (by omega) s j; exact ih (j + 1)
theorem firstL_in (d : List Int) (K : Nat) (s : Int) (hs : 0 ≤ s ∧ s < K) : 0 ≤ firstL d K s ∧ firstL d K s < K := firL_in d K s hs _ _
/-- The pieces of the stations before s. -/
def pcsL (d : List Int) (K : Nat) : Nat → List (List Int)
  | 0 => []
  | s + 1 => if (pcsL d K s).any fun p => hasI p (s : Int) then pcsL d K s else pcsL d K s ++ [passL d K (firstL d K (s : Int))]
theorem pcsL_len (d : List Int) (K s : Nat) : (pcsL d K s).length ≤ s := by
  induction s with
  | zero => simp [pcsL]
  | succ s ih =>
    unfold pcsL
    split
    · omega
    · rw [List.length_append, List.length_singleton]; omega
theorem pcsL_row (d : List Int) (K s : Nat) (hK : 0 < K) : ∀ p ∈ pcsL d K s, p ≠ [] ∧ p.length ≤ K ∧ ∀ x ∈ p, 0 ≤ x ∧ x < K := by
  induction s with
  | zero => simp [pcsL]
  | succ s ih =>
    unfold pcsL
    split
    · exact ih
    · intro p hp
      rcases List.mem_append.1 hp with hp | hp
      · exact ih p hp
      · simp only [List.mem_singleton] at hp
        subst hp
        have := passL_len d K (firstL d K s) hK
        exact ⟨fun e => absurd this.1 (by rw [e]; simp), this.2, passL_in d K _ hK⟩
/-- A ring without broken links: nobody is first. -/
theorem firL_whole {d : List Int} {K : Nat} {s : Int} (hs : 0 ≤ s ∧ s < K) (hd : ∀ y ∈ d, 0 ≤ y ∧ y < K) (h : ∀ j : Nat, 0 < j → j ≤ K → hasI d (stB K s j) = false) : d = [] := by
  cases d with
  | nil => rfl
  | cons y d =>
    exfalso
    have hy := hd y (by simp)
    by_cases hys : y < s
    · have e : stB K s (s - y).toNat = y := by
        unfold stB
        rw [Int.toNat_of_nonneg (by omega)]
        rw [show s - (s - y) = y from by omega]
        exact Int.emod_eq_of_lt hy.1 hy.2
      have := h (s - y).toNat (by omega) (by omega)
      rw [e] at this
      simp [hasI] at this
    · have e : stB K s (s - y + K).toNat = y := by
        unfold stB
        rw [Int.toNat_of_nonneg (by omega)]
        rw [show s - (s - y + K) = y - K from by omega, Int.sub_emod_right]
        exact Int.emod_eq_of_lt hy.1 hy.2
      have := h (s - y + K).toNat (by omega) (by omega)
      rw [e] at this
      simp [hasI] at this
end Go.Proofs.Ytffmpkdkifecpaa
