/-
  Chapter 7: mathematics of the election by rounds.
-/
import Derived.Test.YtgmknndmmpoliaaElI
namespace Go.Proofs.Ytgmknndmmpoliaa
open Go.RowKit Go.Maps
set_option maxRecDepth 100000
set_option linter.unusedVariables false

theorem cntA_mono {A : Nat → Bool} {a b : Nat} (h : a ≤ b) : cntA A a ≤ cntA A b := by
  induction b with
  | zero => have : a = 0 := by omega
            subst this; exact Nat.le_refl _
  | succ b ih =>
    by_cases e : a = b + 1
    · subst e; exact Nat.le_refl _
    · rw [cntA]
      have := ih (by omega)
      omega
theorem cntA_lt {A : Nat → Bool} {s n : Nat} (hs : s < n) (hA : A s = true) : cntA A s < cntA A n := by
  have h1 : cntA A (s + 1) = cntA A s + 1 := by rw [cntA, if_pos hA]
  have := cntA_mono (A := A) (show s + 1 ≤ n by omega)
  omega
theorem alL_at {A : Nat → Bool} {s n : Nat} (hs : s < n) (hA : A s = true) : (alL A n).getD (cntA A s) 0 = (s : Int) := by
  induction n with
  | zero => omega
  | succ n ih =>
    by_cases e : s = n
    · subst e
      rw [alL, if_pos hA, List.getD_eq_getElem?_getD, List.getElem?_append_right (by rw [alL_len]; exact Nat.le_refl _), alL_len]
      simp
    · have h1 := ih (by omega)
      have h2 := cntA_lt (n := n) (show s < n by omega) hA
      rw [alL]
      split
      · rw [List.getD_eq_getElem?_getD, List.getElem?_append_left (by rw [alL_len]; exact h2), ← List.getD_eq_getElem?_getD, h1]
      · exact h1
theorem alL_inj {A : Nat → Bool} {n i j : Nat} (hi : i < (alL A n).length) (hj : j < (alL A n).length) (h : (alL A n).getD i 0 = (alL A n).getD j 0) : i = j := by
  have hp := List.pairwise_iff_getElem.1 (alL_up A n)
  have e1 : (alL A n).getD i 0 = (alL A n)[i] := by simp [hi]
  have e2 : (alL A n).getD j 0 = (alL A n)[j] := by simp [hj]
  rw [e1, e2] at h
  rcases Nat.lt_trichotomy i j with h9 | h9 | h9
  · have := hp i j hi hj h9; omega
  · exact h9
  · have := hp j i hj hi h9; omega
theorem alL_of {A : Nat → Bool} {n j : Nat} (hj : j < (alL A n).length) : ∃ s : Nat, s < n ∧ A s = true ∧ (alL A n).getD j 0 = (s : Int) ∧ cntA A s = j := by
  obtain ⟨s, h1, h2, h3⟩ := (alL_mem A n ((alL A n).getD j 0)).1 (by simp [List.getD, hj])
  refine ⟨s, h1, h2, h3, ?_⟩
  exact alL_inj (by rw [alL_len]; exact cntA_lt h1 h2) hj (by rw [alL_at h1 h2, h3])
/-- The names that the survivors have, in their order. -/
def ownL (A : Nat → Bool) (V : Nat → Int) (n : Nat) : List Int := (alL A n).map fun x => V x.toNat
theorem ownL_len (A : Nat → Bool) (V : Nat → Int) (n : Nat) : (ownL A V n).length = cntA A n := by rw [ownL, List.length_map, alL_len]
theorem ownL_at {A : Nat → Bool} {V : Nat → Int} {n s : Nat} (hs : s < n) (hA : A s = true) : (ownL A V n).getD (cntA A s) 0 = V s := by
  have h1 := alL_at hs hA
  have h2 : cntA A s < (alL A n).length := by rw [alL_len]; exact cntA_lt hs hA
  have e1 : (alL A n).getD (cntA A s) 0 = (alL A n)[cntA A s] := by simp [h2]
  rw [e1] at h1
  have e2 : (ownL A V n).getD (cntA A s) 0 = V ((alL A n)[cntA A s]).toNat := by simp [ownL, h2]
  rw [e2, h1]
  simp
/-- Who survives a round. -/
def nrI (m i : Nat) : Nat := (i + m - 1) % m
def frI (m i : Nat) : Nat := (i + m - 2) % m
def svB (own : List Int) (i : Nat) : Bool := decide (own.getD (frI own.length i) 0 < own.getD (nrI own.length i) 0) && decide (own.getD i 0 < own.getD (nrI own.length i) 0)
def rndN (all own : List Int) : Nat → List Int × List Int
  | 0 => ([], [])
  | j + 1 => if svB own j = true then ((rndN all own j).1 ++ [all.getD j 0], (rndN all own j).2 ++ [own.getD (nrI own.length j) 0]) else rndN all own j
def nextA (A : Nat → Bool) (V : Nat → Int) (n s : Nat) : Bool := A s && svB (ownL A V n) (cntA A s)
def nextV (A : Nat → Bool) (V : Nat → Int) (n s : Nat) : Int := (ownL A V n).getD (nrI (ownL A V n).length (cntA A s)) 0
theorem alL_yes {A : Nat → Bool} {n : Nat} (h : A n = true) : alL A (n + 1) = alL A n ++ [(n : Int)] := by rw [alL, if_pos h]
theorem alL_no {A : Nat → Bool} {n : Nat} (h : A n = false) : alL A (n + 1) = alL A n := by rw [alL, if_neg (by rw [h]; simp)]
theorem rnd_is (A : Nat → Bool) (V : Nat → Int) (n k : Nat) (hk : k ≤ n) : rndN (alL A n) (ownL A V n) (cntA A k) = (alL (nextA A V n) k, ownL (nextA A V n) (nextV A V n) k) := by
  induction k with
  | zero => rfl
  | succ k ih =>
    have h1 := ih (by omega)
    cases hA : A k
    · have e1 : cntA A (k + 1) = cntA A k := by rw [cntA, hA]; simp
      have e2 : nextA A V n k = false := by rw [nextA, hA]; rfl
      rw [e1, h1, ownL, ownL, alL_no e2]
    · have e1 : cntA A (k + 1) = cntA A k + 1 := by rw [cntA, hA]; simp
      have e3 := alL_at (n := n) (show k < n by omega) hA
      rw [e1, rndN, h1, e3]
      cases hs : svB (ownL A V n) (cntA A k)
      · have e2 : nextA A V n k = false := by rw [nextA, hA, hs]; rfl
        rw [if_neg (by simp), ownL, ownL, alL_no e2]
      · have e2 : nextA A V n k = true := by rw [nextA, hA, hs]; rfl
        rw [if_pos rfl, alL_yes e2]
        refine Prod.ext rfl ?_
        have e5 : ownL (nextA A V n) (nextV A V n) (k + 1) = ownL (nextA A V n) (nextV A V n) k ++ [nextV A V n k] := by
          unfold ownL
          rw [alL_yes e2, List.map_append]
          simp
        show _ = ownL (nextA A V n) (nextV A V n) (k + 1)
        rw [e5]
        rfl
theorem rnd_all (A : Nat → Bool) (V : Nat → Int) (n : Nat) : rndN (alL A n) (ownL A V n) (ownL A V n).length = (alL (nextA A V n) n, ownL (nextA A V n) (nextV A V n) n) := by
  rw [ownL_len]
  exact rnd_is A V n n (Nat.le_refl _)
theorem cnt_less {A B : Nat → Bool} {n : Nat} (h : ∀ i, i < n → B i = true → A i = true) : cntA B n ≤ cntA A n := by
  induction n with
  | zero => exact Nat.le_refl _
  | succ n ih =>
    rw [cntA, cntA]
    have h1 := ih fun i hi => h i (by omega)
    cases hB : B n
    · simp; omega
    · rw [h n (by omega) hB]
      omega
theorem cnt_fewer {A B : Nat → Bool} {n s : Nat} (h : ∀ i, i < n → B i = true → A i = true) (hs : s < n) (hA : A s = true) (hB : B s = false) : cntA B n < cntA A n := by
  have h1 := cntA_upd (A := B) (b := true) hs
  rw [hB] at h1
  simp at h1
  have h2 : cntA (updB B s true) n ≤ cntA A n := cnt_less fun i hi hb => by
    unfold updB at hb
    by_cases e : i = s
    · rw [e]; exact hA
    · rw [if_neg e] at hb; exact h i hi hb
  omega
/-- Of several survivors, not all survive a round. -/
theorem next_fewer (A : Nat → Bool) (V : Nat → Int) (n : Nat) (h : 2 ≤ cntA A n) : cntA (nextA A V n) n < cntA A n := by
  have hex : ∃ j, j < cntA A n ∧ svB (ownL A V n) j = false := by
    refine Classical.byContradiction fun hno => ?_
    have hall : ∀ j, j < cntA A n → svB (ownL A V n) j = true := fun j hj => by
      cases hb : svB (ownL A V n) j
      · exact absurd ⟨j, hj, hb⟩ hno
      · rfl
    have hlen := ownL_len A V n
    generalize ownL A V n = own at hall hlen
    have hstep : ∀ j, j + 1 < cntA A n → own.getD (j + 1) 0 < own.getD j 0 := by
      intro j hj
      have h1 := hall (j + 1) hj
      simp only [svB, Bool.and_eq_true, decide_eq_true_eq] at h1
      have e : nrI own.length (j + 1) = j := by
        unfold nrI
        rw [hlen, show j + 1 + cntA A n - 1 = j + cntA A n from by omega, Nat.add_mod_right, Nat.mod_eq_of_lt (by omega)]
      rw [e] at h1
      exact h1.2
    have hle : ∀ j, j < cntA A n → own.getD j 0 ≤ own.getD 0 0 := by
      intro j
      induction j with
      | zero => intro _; exact Int.le_refl _
      | succ j ih =>
        intro hj
        have := ih (by omega)
        have := hstep j hj
        omega
    have h0 := hall 0 (by omega)
    simp only [svB, Bool.and_eq_true, decide_eq_true_eq] at h0
    have e : nrI own.length 0 = cntA A n - 1 := by
      unfold nrI
      rw [hlen, Nat.zero_add, Nat.mod_eq_of_lt (by omega)]
    rw [e] at h0
    have := hle (cntA A n - 1) (by omega)
    omega
  obtain ⟨j, hj, hb⟩ := hex
  obtain ⟨s, h1, h2, _, h3⟩ := alL_of (A := A) (n := n) (j := j) (by rw [alL_len]; exact hj)
  refine cnt_fewer (fun i hi hB => ?_) h1 h2 (by rw [nextA, h2, h3, hb]; rfl)
  unfold nextA at hB
  simp only [Bool.and_eq_true] at hB
  exact hB.1
/-- Who survives up to the round p, with which names. -/
def apF (l : List Int) : Nat → (Nat → Bool) × (Nat → Int)
  | 0 => (fun _ => true, fun i => l.getD i 0)
  | p + 1 => (nextA (apF l p).1 (apF l p).2 l.length, nextV (apF l p).1 (apF l p).2 l.length)
def srvT (l : List Int) : Nat → List (List Int)
  | 0 => [alL (fun _ => true) l.length]
  | p + 1 => srvT l p ++ [alL (apF l (p + 1)).1 l.length]
theorem srvT_len (l : List Int) (p : Nat) : (srvT l p).length = p + 1 := by
  induction p with
  | zero => rfl
  | succ p ih => rw [srvT, List.length_append, ih]; rfl
theorem srvT_row (l : List Int) (p : Nat) : ∀ x ∈ srvT l p, x.length ≤ l.length := by
  induction p with
  | zero => intro x hx; simp [srvT] at hx; rw [hx]; exact alL_le _ _
  | succ p ih =>
    intro x hx
    rw [srvT, List.mem_append] at hx
    rcases hx with h | h
    · exact ih x h
    · simp at h; rw [h]; exact alL_le _ _
def nmA (l : List Int) (p : Nat) : Nat := cntA (apF l p).1 l.length
theorem nmA_less (l : List Int) (p : Nat) (h : 1 < nmA l p) : nmA l (p + 1) < nmA l p := next_fewer _ _ _ h
theorem nmA_start (l : List Int) : nmA l 0 ≤ l.length := by
  unfold nmA
  rw [← alL_len]
  exact alL_le _ _
/-- How many rounds. -/
def rdF (l : List Int) : Nat → Nat → Nat
  | p, 0 => p
  | p, k + 1 => if nmA l p ≤ 1 then p else rdF l (p + 1) k
def rdN (l : List Int) : Nat := rdF l 0 l.length
theorem nmA_down (l : List Int) (p : Nat) (h : ∀ q, q < p → 1 < nmA l q) : nmA l p + p ≤ l.length := by
  induction p with
  | zero => have := nmA_start l; omega
  | succ p ih =>
    have h1 := ih fun q hq => h q (by omega)
    have h2 := nmA_less l p (h p (by omega))
    omega
theorem rdF_is (l : List Int) (R : Nat) (h : ∀ q, q < R → 1 < nmA l q) (hR : nmA l R ≤ 1) (k p : Nat) (hp : p ≤ R) (hk : R ≤ p + k) : rdF l p k = R := by
  induction k generalizing p with
  | zero => rw [rdF]; omega
  | succ k ih =>
    rw [rdF]
    by_cases e : p = R
    · rw [if_pos (by rw [e]; exact hR), e]
    · rw [if_neg (by have := h p (by omega); omega)]
      exact ih (p + 1) (by omega) (by omega)
theorem rdN_is (l : List Int) (R : Nat) (h : ∀ q, q < R → 1 < nmA l q) (hR : nmA l R ≤ 1) : rdN l = R :=
  rdF_is l R h hR l.length 0 (Nat.zero_le _) (by have := nmA_down l R h; omega)
/-- Names stay names. -/
theorem ap_in {l : List Int} (hl : okAll 0 999 l = true) (p : Nat) : ∀ s, s < l.length → (apF l p).1 s = true → 0 ≤ (apF l p).2 s ∧ (apF l p).2 s ≤ 999 := by
  induction p with
  | zero => intro s hs _; exact okAll_at hl s hs
  | succ p ih =>
    intro s hs hA
    show 0 ≤ nextV _ _ _ s ∧ nextV _ _ _ s ≤ 999
    unfold nextV
    have hA2 : nextA (apF l p).1 (apF l p).2 l.length s = true := hA
    unfold nextA at hA2
    simp only [Bool.and_eq_true] at hA2
    have hlen := ownL_len (apF l p).1 (apF l p).2 l.length
    have hpos : 0 < cntA (apF l p).1 l.length := Nat.lt_of_le_of_lt (Nat.zero_le _) (cntA_lt hs hA2.1)
    have hlt : nrI (ownL (apF l p).1 (apF l p).2 l.length).length (cntA (apF l p).1 s) < (alL (apF l p).1 l.length).length := by
      rw [hlen, alL_len]
      exact Nat.mod_lt _ hpos
    obtain ⟨q, h1, h2, _, h3⟩ := alL_of hlt
    rw [← h3, ownL_at h1 h2]
    exact ih q h1 h2
end Go.Proofs.Ytgmknndmmpoliaa
