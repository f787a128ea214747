/-
  Chapter 7: the program's orders are the model's: for each number of names by the kernel's own reckoning.
-/
import Derived.Test.YtgmknndmmpoliaaElQ
import Derived.Test.YtgmknndmmpoliaaElR
namespace Go.Proofs.Ytgmknndmmpoliaa
open Go.RowKit
set_option maxRecDepth 100000
set_option linter.unusedVariables false

/-- A small number, written out. -/
def force1 {α : Type} (x : Int) (k : Int → α) : α :=
  if x = 0 then k 0 else if x = 1 then k 1 else if x = 2 then k 2 else if x = 3 then k 3 else if x = 4 then k 4 else if x = 5 then k 5 else k x
theorem force1_is {α : Type} (x : Int) (k : Int → α) : force1 x k = k x := by
  unfold force1
  split
  · rename_i h; rw [h]
  split
  · rename_i h; rw [h]
  split
  · rename_i h; rw [h]
  split
  · rename_i h; rw [h]
  split
  · rename_i h; rw [h]
  split
  · rename_i h; rw [h]
  rfl
def forceL {α : Type} : List Int → (List Int → α) → α
  | [], k => k []
  | x :: xs, k => force1 x fun y => forceL xs fun ys => k (y :: ys)
theorem forceL_is {α : Type} (l : List Int) (k : List Int → α) : forceL l k = k l := by
  induction l generalizing k with
  | nil => rfl
  | cons x xs ih => rw [forceL, force1_is, ih]
def eqLs : List Int → List Int → Bool
  | [], [] => true
  | x :: xs, y :: ys => decide (x = y) && eqLs xs ys
  | _, _ => false
theorem eqLs_is {a b : List Int} (h : eqLs a b = true) : a = b := by
  induction a generalizing b with
  | nil => cases b <;> simp_all [eqLs]
  | cons x xs ih =>
    cases b with
    | nil => simp [eqLs] at h
    | cons y ys =>
      simp only [eqLs, Bool.and_eq_true, decide_eq_true_eq] at h
      rw [h.1, ih h.2]
def itL (l : List Int) : Nat → List Int
  | 0 => l
  | i + 1 => (nextL (itL l i)).1
theorem itL_next (l : List Int) (i : Nat) : itL (nextL l).1 i = itL l (i + 1) := by
  induction i with
  | zero => rfl
  | succ i ih =>
    show (nextL (itL (nextL l).1 i)).1 = (nextL (itL l (i + 1))).1
    rw [ih]
theorem nmN_it (n i : Nat) : nmN n i = itL (idL n) i := by
  induction i with
  | zero => rfl
  | succ i ih => rw [nmN, ih, itL]
/-- The rows are the orders from l on, one behind the other, up to the last one; all of different names. -/
def chkR : Nat → List Int → List (List Int) → Bool
  | 0, l, [r] => eqLs l r && !(nextL l).2 && allNew l l.length
  | k + 1, l, r :: rs => eqLs l r && (nextL l).2 && allNew l l.length && forceL (nextL l).1 fun l' => chkR k l' rs
  | _, _, _ => false
theorem chkR_is (k : Nat) (l : List Int) (R : List (List Int)) (h : chkR k l R = true) :
    R.length = k + 1 ∧ (∀ i, i ≤ k → R.getD i [] = itL l i) ∧ (∀ i, i < k → (nextL (itL l i)).2 = true) ∧ (nextL (itL l k)).2 = false ∧ ∀ i, i ≤ k → allNew (itL l i) (itL l i).length = true := by
  induction k generalizing l R with
  | zero =>
    match R, h with
    | [r], h =>
      simp only [chkR, Bool.and_eq_true, Bool.not_eq_true'] at h
      refine ⟨rfl, fun i hi => ?_, fun i hi => by omega, h.1.2, fun i hi => ?_⟩
      · obtain rfl : i = 0 := by omega
        exact (eqLs_is h.1.1).symm
      · obtain rfl : i = 0 := by omega
        exact h.2
  | succ k ih =>
    match R, h with
    | r :: rs, h =>
      simp only [chkR, Bool.and_eq_true, forceL_is] at h
      obtain ⟨⟨⟨h1, h2⟩, h3⟩, h4⟩ := h
      obtain ⟨k1, k2, k3, k4, k5⟩ := ih _ _ h4
      refine ⟨by simp [k1], fun i hi => ?_, fun i hi => ?_, by rw [← itL_next]; exact k4, fun i hi => ?_⟩
      · cases i with
        | zero => exact (eqLs_is h1).symm
        | succ i => rw [List.getD_cons_succ, k2 i (by omega), itL_next]
      · cases i with
        | zero => exact h2
        | succ i => rw [← itL_next]; exact k3 i (by omega)
      · cases i with
        | zero => exact h3
        | succ i => rw [← itL_next]; exact k5 i (by omega)
/-- How many orders there are behind the first one. -/
def kN (n : Nat) : Nat := (facN n).toNat - 1
theorem chk2 : chkR (kN 2) (idL 2) (ordF 2 2 []) = true := by kernel_rfl
theorem chk3 : chkR (kN 3) (idL 3) (ordF 3 3 []) = true := by kernel_rfl
theorem chk4 : chkR (kN 4) (idL 4) (ordF 4 4 []) = true := by kernel_rfl
theorem chk5 : chkR (kN 5) (idL 5) (ordF 5 5 []) = true := by kernel_rfl
theorem chk6 : chkR (kN 6) (idL 6) (ordF 6 6 []) = true := by kernel_rfl
theorem chk_all (n : Nat) (h : 2 ≤ n ∧ n ≤ 6) : chkR (kN n) (idL n) (ordF n n []) = true := by
  obtain rfl | rfl | rfl | rfl | rfl : n = 2 ∨ n = 3 ∨ n = 4 ∨ n = 5 ∨ n = 6 := by omega
  · exact chk2
  · exact chk3
  · exact chk4
  · exact chk5
  · exact chk6
/-- The model's best one of the first j rows. -/
def bestN (lt : Bool) (R : List (List Int)) : Nat → List Int
  | 0 => []
  | j + 1 => if (decide ((bestN lt R j).length = 0) || betN lt (sumL (passL (R.getD j []))) (sumL (passL (bestN lt R j)))) = true then R.getD j [] else bestN lt R j
theorem bestN_yes {lt : Bool} {R : List (List Int)} {j : Nat} (h : (bestN lt R j).length = 0 ∨ betN lt (sumL (passL (R.getD j []))) (sumL (passL (bestN lt R j))) = true) : bestN lt R (j + 1) = R.getD j [] := by
  rw [bestN, if_pos (by rw [Bool.or_eq_true, decide_eq_true_eq]; exact h)]
theorem bestN_no {lt : Bool} {R : List (List Int)} {j : Nat} (h0 : 0 < (bestN lt R j).length) (h : betN lt (sumL (passL (R.getD j []))) (sumL (passL (bestN lt R j))) = false) : bestN lt R (j + 1) = bestN lt R j := by
  rw [bestN, if_neg (by rw [h]; simp; intro h9; rw [h9] at h0; simp at h0)]
theorem stN_sum (lt : Bool) (n i : Nat) : (stN lt n i).2 = sumL (passL (stN lt n i).1) ∧ (stN lt n i).1.length = n := by
  induction i with
  | zero => exact ⟨rfl, idL_length n⟩
  | succ i ih =>
    rw [stN]
    split
    · exact ⟨rfl, nmN_length n (i + 1)⟩
    · exact ih
theorem best_is (lt : Bool) (n : Nat) (hn : 0 < n) (R : List (List Int)) (k : Nat) (hR : ∀ i, i ≤ k → R.getD i [] = nmN n i) (j : Nat) (hj : j ≤ k) : bestN lt R (j + 1) = (stN lt n j).1 := by
  induction j with
  | zero => rw [bestN_yes (.inl rfl), hR 0 (Nat.zero_le _)]; rfl
  | succ j ih =>
    have h1 := ih (by omega)
    have h2 := stN_sum lt n j
    cases hb : betN lt (sumL (passL (nmN n (j + 1)))) (stN lt n j).2
    · rw [bestN_no (by rw [h1, h2.2]; exact hn) (by rw [hR (j + 1) hj, h1, ← h2.1]; exact hb), h1, stN_no hb]
    · rw [bestN_yes (.inr (by rw [hR (j + 1) hj, h1, ← h2.1]; exact hb)), hR (j + 1) hj, stN_yes hb]
theorem ord_facts (n : Nat) (h : 2 ≤ n ∧ n ≤ 6) : (ordF n n []).length = kN n + 1 ∧ (∀ i, i ≤ kN n → (ordF n n []).getD i [] = nmN n i) ∧ (∀ i, i < kN n → (nextL (nmN n i)).2 = true) ∧ (nextL (nmN n (kN n))).2 = false ∧
    ∀ i, i ≤ kN n → allNew (nmN n i) (nmN n i).length = true := by
  obtain ⟨h1, h2, h3, h4, h5⟩ := chkR_is _ _ _ (chk_all n h)
  exact ⟨h1, fun i hi => by rw [nmN_it]; exact h2 i hi, fun i hi => by rw [nmN_it]; exact h3 i hi, by rw [nmN_it]; exact h4, fun i hi => by rw [nmN_it]; exact h5 i hi⟩
/-- What WorstNames (lt false) and BestNames say. -/
def ordRg (lt : Bool) (n : Int) : List Int × Bool := if wi n 2 6 = true then ((stN lt n.toNat (kN n.toNat)).1, true) else ([], false)
theorem ordRg_len (lt : Bool) (n : Int) : (ordRg lt n).1.length ≤ 1048576 := by
  unfold ordRg
  split
  · rename_i h
    simp [wi] at h
    simp only [(stN_sum lt n.toNat (kN n.toNat)).2]
    omega
  · simp
end Go.Proofs.Ytgmknndmmpoliaa
