/-
  Chapter 7: mathematics of LongestRepair: the states' numbers, and a rank of the states.
-/
import Derived.Test.YtgmknndmmpoliaaElG
namespace Go.Proofs.Ytgmknndmmpoliaa
open Go.RowKit
set_option maxRecDepth 100000
set_option linter.unusedVariables false

theorem midN_at (k : Nat) (L : List (List Int)) (J : Nat) (hJ : J ≤ L.length) (j x : Nat) (hj : j < J) (hx : x < k) : (midN k L J).getD (j * k + x) [] = L.getD j [] ++ [(x : Int)] := by
  induction J with
  | zero => omega
  | succ J ih =>
    rw [midN_succ k L J (by omega), List.getD_eq_getElem?_getD]
    have hl := midN_length k L J (by omega)
    by_cases e : j = J
    · subst e
      rw [List.getElem?_append_right (by omega), hl, Nat.add_sub_cancel_left]
      simp [addN, hx]
    · have h1 : (j + 1) * k ≤ J * k := Nat.mul_le_mul_right k (by omega)
      rw [Nat.succ_mul] at h1
      rw [List.getElem?_append_left (by omega), ← List.getD_eq_getElem?_getD]
      exact ih (by omega) (by omega)
theorem allN_at (k n j x : Nat) (hj : j < k ^ n) (hx : x < k) : (allN k (n + 1)).getD (j * k + x) [] = (allN k n).getD j [] ++ [(x : Int)] :=
  midN_at k _ _ (Nat.le_refl _) j x (by rw [allN_length]; exact hj) hx
theorem allN_in (k n : Nat) : ∀ s ∈ allN k n, InK s k := by
  induction n with
  | zero => intro s hs; simp [allN] at hs; rw [hs]; intro x hx; cases hx
  | succ n ih =>
    intro s hs
    rw [allN, midN, List.take_length, List.mem_flatMap] at hs
    obtain ⟨t, ht, hs⟩ := hs
    simp only [addN, List.mem_map, List.mem_range] at hs
    obtain ⟨y, hy, rfl⟩ := hs
    intro x hx
    rcases List.mem_append.1 hx with hx | hx
    · exact ih t ht x hx
    · simp at hx
      omega
/-- The number of the first j of a state's numbers. -/
def idxP (l : List Int) (k : Nat) : Nat → Nat
  | 0 => 0
  | j + 1 => idxP l k j * k + (l.getD j 0).toNat
def idxN (l : List Int) (k : Nat) : Nat := idxP l k l.length
theorem idxP_is {l : List Int} {k : Nat} (h : InK l k) (n : Nat) (hn : n ≤ l.length) : idxP l k n < k ^ n ∧ (allN k n).getD (idxP l k n) [] = l.take n := by
  induction n with
  | zero => exact ⟨by simp [idxP], by simp [idxP, allN]⟩
  | succ n ih =>
    obtain ⟨h1, h2⟩ := ih (by omega)
    have h3 := h.at n (by omega)
    have hx : (l.getD n 0).toNat < k := by omega
    refine ⟨?_, ?_⟩
    · rw [idxP, Nat.pow_succ]
      have : (idxP l k n + 1) * k ≤ k ^ n * k := Nat.mul_le_mul_right k h1
      rw [Nat.succ_mul] at this
      omega
    · rw [idxP, allN_at k n _ _ h1 hx, h2, List.take_succ_eq_append_getElem (by omega)]
      have e : (((l.getD n 0).toNat : Nat) : Int) = l.getD n 0 := by omega
      rw [e]
      have : l.getD n 0 = l[n] := by simp [show n < l.length by omega]
      rw [this]
theorem idxN_is {l : List Int} {k n : Nat} (h : InK l k) (hn : l.length = n) : idxN l k < k ^ n ∧ (allN k n).getD (idxN l k) [] = l := by
  have := idxP_is h l.length (Nat.le_refl _)
  rw [List.take_length] at this
  unfold idxN
  rw [← hn]
  exact this
/-- The state of a number; the number of the state that a holder's firing leads to. -/
def stA (n k i : Nat) : List Int := (allN k n).getD i []
def nxt (n k i q : Nat) : Nat := idxN (fireL (stA n k i) k ((holdN (stA n k i) n).getD q 0).toNat) k
theorem stA_len {n k i : Nat} (hi : i < k ^ n) : (stA n k i).length = n := by
  have hl : i < (allN k n).length := by rw [allN_length]; exact hi
  exact allN_row k n _ (by unfold stA; simp [List.getD, hl])
theorem stA_in {n k i : Nat} (hi : i < k ^ n) : InK (stA n k i) k := by
  have hl : i < (allN k n).length := by rw [allN_length]; exact hi
  exact allN_in k n _ (by unfold stA; simp [List.getD, hl])
/-- How many firings there may be, at most, from each state, before there is just one holder. -/
structure Rk (n k : Nat) (f : Nat → Nat) : Prop where
  one : ∀ i, i < k ^ n → oneB (stA n k i) = true → f i = 0
  ge : ∀ i, i < k ^ n → oneB (stA n k i) = false → ∀ q, q < (holdN (stA n k i) n).length → f (nxt n k i q) + 1 ≤ f i
  le : ∀ i, i < k ^ n → oneB (stA n k i) = false → ∃ q, q < (holdN (stA n k i) n).length ∧ f i = f (nxt n k i q) + 1
  top : ∀ i, i < k ^ n → f i < k ^ n
/-- The check, a state after the other. -/
def chkI (k : Nat) (F : List Nat) (s : List Int) (fi : Nat) : Bool :=
  let H := holdN s s.length
  let X := H.map fun h => F.getD (idxN (fireL s k h.toNat) k) 0
  if (H.length : Int) == 1 then fi == 0 else X.all (fun x => decide (x + 1 ≤ fi)) && X.any (fun x => fi == x + 1)
def chkA (k : Nat) (F : List Nat) (m : Nat) : List (List Int) → List Nat → Bool
  | [], [] => true
  | s :: L, x :: G => chkI k F s x && decide (x < m) && chkA k F m L G
  | _, _ => false
theorem chkA_at {k : Nat} {F : List Nat} {m : Nat} {L : List (List Int)} {G : List Nat} (h : chkA k F m L G = true) (i : Nat) (hi : i < L.length) : chkI k F (L.getD i []) (G.getD i 0) = true ∧ G.getD i 0 < m := by
  induction L generalizing G i with
  | nil => simp at hi
  | cons s L ih =>
    cases G with
    | nil => simp [chkA] at h
    | cons x G =>
      simp only [chkA, Bool.and_eq_true, decide_eq_true_eq] at h
      cases i with
      | zero => exact ⟨by simpa using h.1.1, by simpa using h.1.2⟩
      | succ i =>
        have := ih h.2 i (by simpa using hi)
        simpa using this
theorem rk_of {n k : Nat} {F : List Nat} (h : chkA k F (k ^ n) (allN k n) F = true) : Rk n k fun i => F.getD i 0 := by
  have key : ∀ i, i < k ^ n → chkI k F (stA n k i) (F.getD i 0) = true ∧ F.getD i 0 < k ^ n := fun i hi => chkA_at h i (by rw [allN_length]; exact hi)
  refine ⟨fun i hi h1 => ?_, fun i hi h1 q hq => ?_, fun i hi h1 => ?_, fun i hi => (key i hi).2⟩
  · have h2 := (key i hi).1
    unfold oneB at h1
    simp only [chkI] at h2
    rw [if_pos h1] at h2
    simpa using h2
  · have h2 := (key i hi).1
    unfold oneB at h1
    simp only [chkI] at h2
    rw [if_neg (by rw [h1]; simp)] at h2
    simp only [Bool.and_eq_true, List.all_eq_true, List.mem_map, decide_eq_true_eq] at h2
    refine h2.1 _ ⟨(holdN (stA n k i) n).getD q 0, ?_, rfl⟩
    rw [stA_len hi]
    simp [List.getD, hq]
  · have h2 := (key i hi).1
    unfold oneB at h1
    simp only [chkI] at h2
    rw [if_neg (by rw [h1]; simp)] at h2
    simp only [Bool.and_eq_true, List.any_eq_true, List.mem_map, beq_iff_eq] at h2
    obtain ⟨x, ⟨y, hy, rfl⟩, h3⟩ := h2.2
    rw [stA_len hi] at hy
    obtain ⟨q, hq, e⟩ := List.getElem_of_mem hy
    refine ⟨q, hq, ?_⟩
    show F.getD i 0 = F.getD (nxt n k i q) 0 + 1
    unfold nxt
    rw [show (holdN (stA n k i) n).getD q 0 = y from by simp [List.getD, hq, e]]
    exact h3

def rkL22 : List Nat := [0, 0, 0, 0]
set_option maxHeartbeats 4000000 in
theorem rk22 : Rk 2 2 fun i => rkL22.getD i 0 := rk_of (by kernel_rfl)

def rkL23 : List Nat := [0, 0, 0, 0, 0, 0, 0, 0, 0]
set_option maxHeartbeats 4000000 in
theorem rk23 : Rk 2 3 fun i => rkL23.getD i 0 := rk_of (by kernel_rfl)

def rkL24 : List Nat := [0, 0, 0, 0, 0, 0, 0, 0, 0, 0, 0, 0, 0, 0, 0, 0]
set_option maxHeartbeats 4000000 in
theorem rk24 : Rk 2 4 fun i => rkL24.getD i 0 := rk_of (by kernel_rfl)

def rkL25 : List Nat := [0, 0, 0, 0, 0, 0, 0, 0, 0, 0, 0, 0, 0, 0, 0, 0, 0, 0, 0, 0, 0, 0, 0, 0, 0]
set_option maxHeartbeats 4000000 in
theorem rk25 : Rk 2 5 fun i => rkL25.getD i 0 := rk_of (by kernel_rfl)

def rkL33 : List Nat := [0, 0, 0, 1, 0, 1, 2, 1, 0, 0, 2, 1, 0, 0, 0, 1, 1, 0, 0, 1, 1, 1, 0, 2, 0, 0, 0]
set_option maxHeartbeats 4000000 in
theorem rk33 : Rk 3 3 fun i => rkL33.getD i 0 := rk_of (by kernel_rfl)

def rkL34 : List Nat := [0, 0, 0, 0, 1, 0, 1, 1, 2, 1, 0, 1, 2, 1, 1, 0, 0, 2, 1, 1, 0, 0, 0, 0, 1, 1, 0, 1, 1, 2, 1, 0, 0, 1, 2, 1, 1, 0, 2, 1, 0, 0, 0, 0, 1, 1, 1, 0, 0, 1, 1, 1, 1, 0, 1, 2, 1, 1, 0, 2, 0, 0, 0, 0]
set_option maxHeartbeats 4000000 in
theorem rk34 : Rk 3 4 fun i => rkL34.getD i 0 := rk_of (by kernel_rfl)

def rkL35 : List Nat := [0, 0, 0, 0, 0, 1, 0, 1, 1, 1, 2, 1, 0, 1, 1, 2, 1, 1, 0, 1, 2, 1, 1, 1, 0, 0, 2, 1, 1, 1, 0, 0, 0, 0, 0, 1, 1, 0, 1, 1, 1, 2, 1, 0, 1, 1, 2, 1, 1, 0, 0, 1, 2, 1, 1, 1, 0, 2, 1, 1, 0, 0, 0, 0, 0, 1, 1, 1, 0, 1, 1, 1, 2, 1, 0, 0, 1, 1, 2, 1, 1, 0, 1, 2, 1, 1, 1, 0, 2, 1, 0, 0, 0, 0, 0, 1, 1, 1, 1, 0, 0, 1, 1, 1, 1, 1, 0, 1, 1, 2, 1, 1, 0, 1, 2, 1, 1, 1, 0, 2, 0, 0, 0, 0, 0]
set_option maxHeartbeats 4000000 in
theorem rk35 : Rk 3 5 fun i => rkL35.getD i 0 := rk_of (by kernel_rfl)

def rkL44 : List Nat := [0, 0, 0, 0, 9, 0, 1, 1, 5, 1, 0, 1, 5, 1, 1, 0, 11, 12, 12, 12, 10, 0, 2, 2, 11, 4, 3, 4, 11, 4, 4, 3, 7, 8, 8, 8, 13, 3, 4, 4, 6, 2, 0, 2, 7, 4, 4, 3, 7, 8, 8, 8, 10, 3, 4, 4, 7, 4, 3, 4, 6, 2, 2, 0, 0, 6, 2, 2, 8, 7, 8, 8, 4, 10, 3, 4, 4, 7, 4, 3, 0, 5, 1, 1, 0, 0, 0, 0, 1, 9, 0, 1, 1, 5, 1, 0, 3, 11, 4, 4, 12, 11, 12, 12, 2, 10, 0, 2, 4, 11, 4, 3, 3, 7, 4, 4, 8, 7, 8, 8, 4, 13, 3, 4, 2, 6, 2, 0, 0, 2, 6, 2, 4, 3, 7, 4, 8, 8, 7, 8, 4, 4, 13, 3, 3, 4, 7, 4, 2, 0, 6, 2, 8, 8, 7, 8, 4, 4, 10, 3, 0, 1, 5, 1, 1, 0, 5, 1, 0, 0, 0, 0, 1, 1, 9, 0, 3, 4, 11, 4, 4, 3, 11, 4, 12, 12, 11, 12, 2, 2, 10, 0, 0, 2, 2, 10, 4, 3, 4, 11, 4, 4, 3, 11, 12, 12, 12, 11, 3, 4, 4, 13, 2, 0, 2, 6, 4, 4, 3, 7, 8, 8, 8, 7, 3, 4, 4, 10, 4, 3, 4, 7, 2, 2, 0, 6, 8, 8, 8, 7, 0, 1, 1, 9, 1, 0, 1, 5, 1, 1, 0, 5, 0, 0, 0, 0]
set_option maxHeartbeats 4000000 in
theorem rk44 : Rk 4 4 fun i => rkL44.getD i 0 := rk_of (by kernel_rfl)

def rkL45 : List Nat := [0, 0, 0, 0, 0, 9, 0, 1, 1, 1, 5, 1, 0, 1, 1, 5, 1, 1, 0, 1, 5, 1, 1, 1, 0, 11, 12, 12, 12, 12, 10, 0, 2, 2, 2, 11, 4, 3, 4, 4, 11, 4, 4, 3, 4, 11, 4, 4, 4, 3, 7, 8, 8, 8, 8, 13, 3, 4, 4, 4, 6, 2, 0, 2, 2, 7, 4, 4, 3, 4, 7, 4, 4, 4, 3, 7, 8, 8, 8, 8, 10, 3, 4, 4, 4, 7, 4, 3, 4, 4, 6, 2, 2, 0, 2, 7, 4, 4, 4, 3, 7, 8, 8, 8, 8, 10, 3, 4, 4, 4, 7, 4, 3, 4, 4, 7, 4, 4, 3, 4, 6, 2, 2, 2, 0, 0, 6, 2, 2, 2, 8, 7, 8, 8, 8, 4, 10, 3, 4, 4, 4, 7, 4, 3, 4, 4, 7, 4, 4, 3, 0, 5, 1, 1, 1, 0, 0, 0, 0, 0, 1, 9, 0, 1, 1, 1, 5, 1, 0, 1, 1, 5, 1, 1, 0, 3, 11, 4, 4, 4, 12, 11, 12, 12, 12, 2, 10, 0, 2, 2, 4, 11, 4, 3, 4, 4, 11, 4, 4, 3, 3, 7, 4, 4, 4, 8, 7, 8, 8, 8, 4, 13, 3, 4, 4, 2, 6, 2, 0, 2, 4, 7, 4, 4, 3, 3, 7, 4, 4, 4, 8, 7, 8, 8, 8, 4, 10, 3, 4, 4, 4, 7, 4, 3, 4, 2, 6, 2, 2, 0, 0, 2, 6, 2, 2, 4, 3, 7, 4, 4, 8, 8, 7, 8, 8, 4, 4, 10, 3, 4, 4, 4, 7, 4, 3, 3, 4, 7, 4, 4, 2, 0, 6, 2, 2, 8, 8, 7, 8, 8, 4, 4, 10, 3, 4, 4, 4, 7, 4, 3, 0, 1, 5, 1, 1, 1, 0, 5, 1, 1, 0, 0, 0, 0, 0, 1, 1, 9, 0, 1, 1, 1, 5, 1, 0, 3, 4, 11, 4, 4, 4, 3, 11, 4, 4, 12, 12, 11, 12, 12, 2, 2, 10, 0, 2, 4, 4, 11, 4, 3, 3, 4, 7, 4, 4, 4, 3, 7, 4, 4, 8, 8, 7, 8, 8, 4, 4, 13, 3, 4, 2, 2, 6, 2, 0, 0, 2, 2, 6, 2, 4, 3, 4, 7, 4, 4, 4, 3, 7, 4, 8, 8, 8, 7, 8, 4, 4, 4, 13, 3, 3, 4, 4, 7, 4, 2, 0, 2, 6, 2, 4, 4, 3, 7, 4, 8, 8, 8, 7, 8, 4, 4, 4, 10, 3, 3, 4, 4, 7, 4, 4, 3, 4, 7, 4, 2, 2, 0, 6, 2, 8, 8, 8, 7, 8, 4, 4, 4, 10, 3, 0, 1, 1, 5, 1, 1, 0, 1, 5, 1, 1, 1, 0, 5, 1, 0, 0, 0, 0, 0, 1, 1, 1, 9, 0, 3, 4, 4, 11, 4, 4, 3, 4, 11, 4, 4, 4, 3, 11, 4, 12, 12, 12, 11, 12, 2, 2, 2, 10, 0, 0, 2, 2, 2, 10, 4, 3, 4, 4, 11, 4, 4, 3, 4, 11, 4, 4, 4, 3, 11, 12, 12, 12, 12, 11, 3, 4, 4, 4, 13, 2, 0, 2, 2, 6, 4, 4, 3, 4, 7, 4, 4, 4, 3, 7, 8, 8, 8, 8, 7, 3, 4, 4, 4, 10, 4, 3, 4, 4, 7, 2, 2, 0, 2, 6, 4, 4, 4, 3, 7, 8, 8, 8, 8, 7, 3, 4, 4, 4, 10, 4, 3, 4, 4, 7, 4, 4, 3, 4, 7, 2, 2, 2, 0, 6, 8, 8, 8, 8, 7, 0, 1, 1, 1, 9, 1, 0, 1, 1, 5, 1, 1, 0, 1, 5, 1, 1, 1, 0, 5, 0, 0, 0, 0, 0]
set_option maxHeartbeats 4000000 in
theorem rk45 : Rk 4 5 fun i => rkL45.getD i 0 := rk_of (by kernel_rfl)

/-- A rank for each pair. -/
def rkL : Nat → Nat → List Nat
  | 2, 2 => rkL22
  | 2, 3 => rkL23
  | 2, 4 => rkL24
  | 2, 5 => rkL25
  | 3, 3 => rkL33
  | 3, 4 => rkL34
  | 3, 5 => rkL35
  | 4, 4 => rkL44
  | 4, 5 => rkL45
  | _, _ => []
theorem rk_is {n k : Nat} (hn : 2 ≤ n ∧ n ≤ 4) (hk : n ≤ k ∧ k ≤ 5) : Rk n k fun i => (rkL n k).getD i 0 := by
  obtain rfl | rfl | rfl : n = 2 ∨ n = 3 ∨ n = 4 := by omega
  · obtain rfl | rfl | rfl | rfl : k = 2 ∨ k = 3 ∨ k = 4 ∨ k = 5 := by omega
    · exact rk22
    · exact rk23
    · exact rk24
    · exact rk25
  · obtain rfl | rfl | rfl : k = 3 ∨ k = 4 ∨ k = 5 := by omega
    · exact rk33
    · exact rk34
    · exact rk35
  · obtain rfl | rfl : k = 4 ∨ k = 5 := by omega
    · exact rk44
    · exact rk45
/-- The greatest of the first j. -/
def mxN (f : Nat → Nat) : Nat → Nat
  | 0 => 0
  | j + 1 => if mxN f j < f j then f j else mxN f j
theorem mxN_ge {f : Nat → Nat} {j i : Nat} (h : i < j) : f i ≤ mxN f j := by
  induction j with
  | zero => omega
  | succ j ih =>
    rw [mxN]
    by_cases e : i = j
    · subst e; split <;> omega
    · have := ih (by omega)
      split <;> omega
theorem mxN_congr {f g : Nat → Nat} {j : Nat} (h : ∀ i, i < j → f i = g i) : mxN f j = mxN g j := by
  induction j with
  | zero => rfl
  | succ j ih => rw [mxN, mxN, ih fun i hi => h i (by omega), h j (by omega)]
/-- What LongestRepair says. -/
def longRg (n k : Int) : Int × Bool := if (wi n 2 4 && wi k n 5) = true then ((mxN (fun i => (rkL n.toNat k.toNat).getD i 0) (k.toNat ^ n.toNat) : Nat), true) else (0, false)

end Go.Proofs.Ytgmknndmmpoliaa
