/-
  Plain mathematics: the walk on a double ring that wraps: stations and directions, and when it goes on as at first. No dump is imported.
-/
import Derived.Test.YtffmpkdkifecpaaMathRing
namespace Go.Proofs.Ytffmpkdkifecpaa
set_option maxRecDepth 100000
set_option linter.unusedVariables false

/-- The direction in which one goes on from a station, having come with the old one: forwards is true. -/
def turnW (d : List Int) (k a : Int) (f : Bool) : Bool := f != hasI d (if f then a else bf k a)
def stepW (d : List Int) (k : Int) (x : Int × Bool) : Int × Bool := ((if x.2 then nx k x.1 else bf k x.1), turnW d k (if x.2 then nx k x.1 else bf k x.1) x.2)
def seqW (d : List Int) (k s : Int) : Nat → Int × Bool
  | 0 => (s, turnW d k s true)
  | n + 1 => stepW d k (seqW d k s n)
/-- A station, and the link in its direction is there. -/
def OnW (d : List Int) (k : Int) (x : Int × Bool) : Prop := (0 ≤ x.1 ∧ x.1 < k) ∧ hasI d (if x.2 then x.1 else bf k x.1) = false
theorem bf_nx {k a : Int} (h : 0 ≤ a ∧ a < k) (hk : 2 ≤ k) : bf k (nx k a) = a := by
  have h1 := nx_in h.1 h.2
  rw [bf_eq h1.1 h1.2, nx_eq h.1 h.2]
  split <;> split <;> omega
theorem nx_bf {k a : Int} (h : 0 ≤ a ∧ a < k) (hk : 2 ≤ k) : nx k (bf k a) = a := by
  have h1 := bf_in h.1 h.2
  rw [nx_eq h1.1 h1.2, bf_eq h.1 h.2]
  split <;> split <;> omega
theorem stepW_on {d : List Int} {k : Int} {x : Int × Bool} (hk : 2 ≤ k) (h : OnW d k x) : OnW d k (stepW d k x) := by
  obtain ⟨a, f⟩ := x
  obtain ⟨h1, h2⟩ := h
  cases f
  · simp only [Bool.false_eq_true, if_false] at h1 h2
    have h3 := bf_in h1.1 h1.2
    have h4 := nx_bf h1 hk
    refine ⟨by simpa [stepW] using h3, ?_⟩
    simp only [stepW, turnW, Bool.false_eq_true, if_false]
    cases hh : hasI d (bf k (bf k a))
    · simpa using hh
    · simpa using h2
  · simp only [if_true] at h1 h2
    have h3 := nx_in h1.1 h1.2
    have h4 := bf_nx h1 hk
    refine ⟨by simpa [stepW] using h3, ?_⟩
    simp only [stepW, turnW, if_true]
    cases hh : hasI d (nx k a)
    · simpa using hh
    · simpa [h4] using h2
theorem stepW_inj {d : List Int} {k : Int} {x y : Int × Bool} (hk : 2 ≤ k) (hx : OnW d k x) (hy : OnW d k y) (h : stepW d k x = stepW d k y) : x = y := by
  obtain ⟨a, f⟩ := x
  obtain ⟨b, g⟩ := y
  obtain ⟨h1, h2⟩ := hx
  obtain ⟨h3, h4⟩ := hy
  simp only [stepW, Prod.mk.injEq] at h
  obtain ⟨e1, e2⟩ := h
  cases f <;> cases g <;> simp only [Bool.false_eq_true, if_false, if_true] at h1 h2 h3 h4 e1 e2
  · have := congrArg (nx k) e1
    rw [nx_bf h1 hk, nx_bf h3 hk] at this
    rw [this]
  · exfalso
    -- from a backwards, from b forwards, to one station with one direction
    rw [← e1] at e2
    simp only [turnW, Bool.false_eq_true, if_false, if_true] at e2
    have h5 : bf k (bf k a) = b := by rw [e1, bf_nx h3 hk]
    rw [h5, h4, h2] at e2
    exact absurd e2 (by decide)
  · exfalso
    rw [e1] at e2
    simp only [turnW, Bool.false_eq_true, if_false, if_true] at e2
    have h5 : bf k (bf k b) = a := by rw [← e1, bf_nx h1 hk]
    rw [h5, h4, h2] at e2
    exact absurd e2 (by decide)
  · have := congrArg (bf k) e1
    rw [bf_nx h1 hk, bf_nx h3 hk] at this
    rw [this]
/-- Among m + 1 numbers below m two are the same. -/
theorem pigeon (m : Nat) (f : Nat → Nat) (h : ∀ i, i ≤ m → f i < m) : ∃ i j, i < j ∧ j ≤ m ∧ f i = f j := by
  induction m generalizing f with
  | zero => exact absurd (h 0 (Nat.le_refl _)) (by omega)
  | succ m ih =>
    by_cases hv : ∃ i, i ≤ m ∧ f i = f (m + 1)
    · obtain ⟨i, hi, e⟩ := hv
      exact ⟨i, m + 1, by omega, Nat.le_refl _, e⟩
    · have hne : ∀ i, i ≤ m → f i ≠ f (m + 1) := fun i hi e => hv ⟨i, hi, e⟩
      have hl := h (m + 1) (Nat.le_refl _)
      obtain ⟨i, j, hij, hj, e⟩ := ih (fun i => if f (m + 1) < f i then f i - 1 else f i) fun i hi => by
        have h1 := h i (by omega)
        have h2 := hne i hi
        split <;> omega
      have h1 := hne i (by omega)
      have h2 := hne j hj
      refine ⟨i, j, hij, by omega, ?_⟩
      split at e <;> split at e <;> omega
/-- Is it a station alone? -/
def aloneW (d : List Int) (k s : Int) : Bool := hasI d s && hasI d (bf k s)
theorem seqW_on {d : List Int} {k s : Int} (hk : 2 ≤ k) (hs : 0 ≤ s ∧ s < k) (ha : aloneW d k s = false) (n : Nat) : OnW d k (seqW d k s n) := by
  induction n with
  | zero =>
    refine ⟨hs, ?_⟩
    simp only [seqW, turnW, if_true]
    cases hh : hasI d s
    · simpa using hh
    · unfold aloneW at ha
      rw [hh, Bool.true_and] at ha
      simpa using ha
  | succ n ih => exact stepW_on hk ih
theorem seqW_back {d : List Int} {k s : Int} (hk : 2 ≤ k) (hs : 0 ≤ s ∧ s < k) (ha : aloneW d k s = false) (i j : Nat) (h : seqW d k s i = seqW d k s (i + j)) : seqW d k s 0 = seqW d k s j := by
  induction i with
  | zero => simpa using h
  | succ i ih =>
    refine ih (stepW_inj hk (seqW_on hk hs ha _) (seqW_on hk hs ha _) ?_)
    have e : i + 1 + j = (i + j) + 1 := by omega
    rw [e] at h
    exact h
/-- It goes on as at first, and before long. -/
theorem wrap_ends {d : List Int} {K : Nat} {s : Int} (hk : 2 ≤ (K : Int)) (hs : 0 ≤ s ∧ s < K) (ha : aloneW d K s = false) : ∃ n, 0 < n ∧ n ≤ 2 * K ∧ seqW d K s n = seqW d K s 0 := by
  have hon := seqW_on hk hs ha
  obtain ⟨i, j, hij, hj, e⟩ := pigeon (2 * K) (fun n => 2 * (seqW d K s n).1.toNat + (if (seqW d K s n).2 then 1 else 0)) fun i _ => by
    have h1 := (hon i).1
    split <;> omega
  have h1 := (hon i).1
  have h2 := (hon j).1
  have e2 : seqW d K s i = seqW d K s j := by
    refine Prod.ext ?_ ?_
    · split at e <;> split at e <;> omega
    · cases hf : (seqW d K s i).2 <;> cases hg : (seqW d K s j).2 <;> simp only [hf, hg, Bool.false_eq_true, if_false, if_true] at e
      · rfl
      · omega
      · omega
      · rfl
  refine ⟨j - i, by omega, by omega, ?_⟩
  have e3 : i + (j - i) = j := by omega
  exact (seqW_back hk hs ha i (j - i) (by rw [e3]; exact e2)).symm
/-- .. first so at n. -/
def EndW (d : List Int) (k s : Int) (n : Nat) : Prop := 0 < n ∧ seqW d k s n = seqW d k s 0 ∧ ∀ m, 0 < m → m < n → seqW d k s m ≠ seqW d k s 0
theorem least_of {p : Nat → Prop} (n : Nat) (h0 : 0 < n) (h : p n) : ∃ m, 0 < m ∧ m ≤ n ∧ p m ∧ ∀ i, 0 < i → i < m → ¬ p i := by
  induction n using Nat.strongRecOn with
  | _ n ih =>
    by_cases hq : ∃ i, 0 < i ∧ i < n ∧ p i
    · obtain ⟨i, hi0, hin, hpi⟩ := hq
      obtain ⟨m, h1, h2, h3, h4⟩ := ih i hin hi0 hpi
      exact ⟨m, h1, by omega, h3, h4⟩
    · exact ⟨n, h0, Nat.le_refl _, h, fun i hi0 hin hpi => hq ⟨i, hi0, hin, hpi⟩⟩
theorem end_of {d : List Int} {K : Nat} {s : Int} (hk : 2 ≤ (K : Int)) (hs : 0 ≤ s ∧ s < K) (ha : aloneW d K s = false) : ∃ n, n ≤ 2 * K ∧ EndW d K s n := by
  obtain ⟨n, h0, hn, he⟩ := wrap_ends hk hs ha
  obtain ⟨m, h1, h2, h3, h4⟩ := least_of (p := fun n => seqW d K s n = seqW d K s 0) n h0 he
  exact ⟨m, by omega, h1, h3, h4⟩
theorem EndW.one {d : List Int} {k s : Int} {m n : Nat} (h : EndW d k s m) (h' : EndW d k s n) : m = n := by
  rcases Nat.lt_trichotomy m n with h1 | h1 | h1
  · exact absurd h.2.1 (h'.2.2 m h.1 h1)
  · exact h1
  · exact absurd h'.2.1 (h.2.2 n h'.1 h1)
def passW (d : List Int) (k s : Int) (n : Nat) : List Int := (List.range n).map fun i => (seqW d k s i).1
theorem passW_succ (d : List Int) (k s : Int) (n : Nat) : passW d k s (n + 1) = passW d k s n ++ [(seqW d k s n).1] := by simp [passW, List.range_succ]
theorem passW_len (d : List Int) (k s : Int) (n : Nat) : (passW d k s n).length = n := by simp [passW]
/-- The number of steps till it goes on as at first, looked for from n on. -/
def lenGo (d : List Int) (k s : Int) : Nat → Nat → Nat
  | 0, n => n
  | f + 1, n => if seqW d k s n = seqW d k s 0 then n else lenGo d k s f (n + 1)
theorem lenGo_end {d : List Int} {k s : Int} {N : Nat} (h : EndW d k s N) (f n : Nat) (h0 : 0 < n) (h1 : n ≤ N) (h2 : N ≤ n + f) : lenGo d k s f n = N := by
  induction f generalizing n with
  | zero => unfold lenGo; omega
  | succ f ih =>
    unfold lenGo
    by_cases hn : n = N
    · rw [if_pos (by rw [hn]; exact h.2.1)]; exact hn
    · rw [if_neg (h.2.2 n h0 (by omega))]
      exact ih (n + 1) (by omega) (by omega) (by omega)
def lenW (d : List Int) (K : Nat) (s : Int) : Nat := lenGo d K s (2 * K) 1
theorem lenW_end {d : List Int} {K : Nat} {s : Int} (hk : 2 ≤ (K : Int)) (hs : 0 ≤ s ∧ s < K) (ha : aloneW d K s = false) : lenW d K s ≤ 2 * K ∧ EndW d K s (lenW d K s) := by
  obtain ⟨n, hn, he⟩ := end_of hk hs ha
  have : lenW d K s = n := lenGo_end he _ _ (by omega) he.1 (by omega)
  rw [this]
  exact ⟨hn, he⟩
end Go.Proofs.Ytffmpkdkifecpaa
