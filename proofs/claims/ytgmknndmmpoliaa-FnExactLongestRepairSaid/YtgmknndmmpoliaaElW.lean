/-
  Chapter 7: mathematics of the election both ways: who goes on as a list, and that the winner is alone at last.
-/
import Derived.Test.YtgmknndmmpoliaaElN
namespace Go.Proofs.Ytgmknndmmpoliaa
open Go.RowKit Go.Maps
set_option maxRecDepth 100000
set_option linter.unusedVariables false

/-- The stations below n that A tells, in order. -/
def alL (A : Nat → Bool) : Nat → List Int
  | 0 => []
  | n + 1 => if A n = true then alL A n ++ [(n : Int)] else alL A n
theorem alL_len (A : Nat → Bool) (n : Nat) : (alL A n).length = cntA A n := by
  induction n with
  | zero => rfl
  | succ n ih =>
    rw [alL, cntA]
    split <;> simp [ih]
theorem alL_le (A : Nat → Bool) (n : Nat) : (alL A n).length ≤ n := by
  induction n with
  | zero => simp [alL]
  | succ n ih =>
    rw [alL]
    split
    · simp; omega
    · omega
theorem alL_mem (A : Nat → Bool) (n : Nat) (x : Int) : x ∈ alL A n ↔ ∃ s : Nat, s < n ∧ A s = true ∧ x = (s : Int) := by
  induction n with
  | zero => simp [alL]
  | succ n ih =>
    rw [alL]
    split
    · rename_i h
      rw [List.mem_append, ih, List.mem_singleton]
      constructor
      · rintro (⟨s, h1, h2, h3⟩ | h1)
        · exact ⟨s, by omega, h2, h3⟩
        · exact ⟨n, by omega, h, h1⟩
      · rintro ⟨s, h1, h2, h3⟩
        by_cases hs : s = n
        · exact .inr (hs ▸ h3)
        · exact .inl ⟨s, by omega, h2, h3⟩
    · rename_i h
      rw [ih]
      constructor
      · rintro ⟨s, h1, h2, h3⟩
        exact ⟨s, by omega, h2, h3⟩
      · rintro ⟨s, h1, h2, h3⟩
        by_cases hs : s = n
        · subst hs; exact absurd h2 h
        · exact ⟨s, by omega, h2, h3⟩
theorem alL_congr {A B : Nat → Bool} {n : Nat} (h : ∀ i, i < n → A i = B i) : alL A n = alL B n := by
  induction n with
  | zero => rfl
  | succ n ih => rw [alL, alL, ih fun i hi => h i (by omega), h n (by omega)]
theorem alL_filter (A f : Nat → Bool) (n : Nat) : (alL A n).filter (fun x => f x.toNat) = alL (fun s => A s && f s) n := by
  induction n with
  | zero => rfl
  | succ n ih =>
    rw [alL, alL]
    cases hA : A n
    · simp [ih]
    · cases hf : f n <;> simp [List.filter_append, ih, hf]
def cstL (f : Nat → Int) (L : List Int) : Int := sumL (L.map fun x => f x.toNat)
theorem sumL_app (a : List Int) (x : Int) : sumL (a ++ [x]) = sumL a + x := by simp [sumL, List.foldl_append]
theorem alL_sum (A : Nat → Bool) (f : Nat → Int) (n : Nat) : cstL f (alL A n) = sumTo (fun s => if A s = true then f s else 0) n := by
  induction n with
  | zero => rfl
  | succ n ih =>
    rw [alL, sumTo]
    unfold cstL at ih ⊢
    cases hA : A n
    · simp [ih]
    · simp only [if_true, List.map_append, List.map_cons, List.map_nil, sumL_app, ih]
      simp
theorem cst_take (f : Nat → Int) (L : List Int) (j : Nat) (hj : j < L.length) : cstL f (L.take (j + 1)) = cstL f (L.take j) + f (L.getD j 0).toNat := by
  unfold cstL
  rw [List.take_succ_eq_append_getElem hj, List.map_append, List.map_cons, List.map_nil, sumL_app]
  simp [hj]
theorem filter_take (f : Int → Bool) (L : List Int) (j : Nat) (hj : j < L.length) : (L.take (j + 1)).filter f = if f (L.getD j 0) = true then (L.take j).filter f ++ [L.getD j 0] else (L.take j).filter f := by
  have e : L.getD j 0 = L[j] := by simp [hj]
  rw [List.take_succ_eq_append_getElem hj, List.filter_append, e]
  cases h : f L[j] <;> simp [h]
theorem cst_in {f : Nat → Int} {b : Int} (h : ∀ s, 0 ≤ f s ∧ f s ≤ b) (L : List Int) : 0 ≤ cstL f L ∧ cstL f L ≤ b * L.length := by
  have := sumL_bound (L.map fun x => f x.toNat) b (fun x hx => by
    obtain ⟨y, _, rfl⟩ := List.mem_map.1 hx
    exact h _) (L.map fun x => f x.toNat).length (Nat.le_refl _)
  rw [List.take_length] at this
  simpa [cstL] using this
theorem ansN_all {g : Nat → Bool} (h : ∀ k, g k = false) (k m : Nat) : ansN g k m = true := by
  induction m generalizing k with
  | zero => rfl
  | succ m ih => rw [ansN, if_neg (by rw [h]; simp), ih]
theorem ansN_no {g : Nat → Bool} {k m j : Nat} (h1 : k < j) (h2 : j ≤ k + m) (hg : g j = true) : ansN g k m = false := by
  induction m generalizing k with
  | zero => omega
  | succ m ih =>
    rw [ansN]
    split
    · rfl
    · rename_i h
      by_cases e : j = k + 1
      · exact absurd (e ▸ hg) h
      · exact ih (by omega) (by omega)
theorem phN_in : ∀ n : Nat, 2 ≤ n → n ≤ 12 → 1 ≤ phN n ∧ phN n ≤ 4 ∧ 2 ^ (phN n - 1) < n ∧ n ≤ 2 ^ phN n := by
  have h : ∀ n : Fin 13, 2 ≤ n.1 → 1 ≤ phN n.1 ∧ phN n.1 ≤ 4 ∧ 2 ^ (phN n.1 - 1) < n.1 ∧ n.1 ≤ 2 ^ phN n.1 := by decide
  exact fun n h1 h2 => h ⟨n, by omega⟩ h1
/-- The winner goes on for ever; at last no other one does. -/
theorem win_on {l : List Int} (hn : 2 ≤ l.length ∧ l.length ≤ 12) (p : Nat) : alN l p (winN l l.length) = true := by
  have hg : ∀ d k, gD l (winN l l.length) d k = false := by
    intro d k
    unfold gD
    have := (winN_top l l.length).1 (posD l.length d (winN l l.length) k) (posD_lt _ _ _ _ (by omega))
    simp
    simpa using this
  induction p with
  | zero => rfl
  | succ p ih =>
    rw [alN, ih, okN, ansN_all (hg 1), ansN_all (hg (l.length - 1))]
    rfl
theorem win_alone {l : List Int} (hn : 2 ≤ l.length ∧ l.length ≤ 12) (hd : allNew l l.length = true) (s : Nat) (hs : s < l.length) (hne : s ≠ winN l l.length) : alN l (phN l.length) s = false := by
  obtain ⟨h1, h4, h2, h3⟩ := phN_in l.length hn.1 hn.2
  obtain ⟨q, hq⟩ : ∃ q, phN l.length = q + 1 := ⟨phN l.length - 1, by omega⟩
  rw [hq] at h2 h3 ⊢
  rw [Nat.add_sub_cancel] at h2
  rw [Nat.pow_succ] at h3
  have hw := (winN_lt l l.length).2 (by omega)
  have htop := (winN_top l l.length).1 s hs
  have hlt : l.getD s 0 < l.getD (winN l l.length) 0 := by
    have := allNew_ne hd (Nat.le_refl _) hs hw hne
    omega
  generalize winN l l.length = w at hne hw hlt
  obtain ⟨r, hr⟩ : ∃ r, r = 2 ^ q := ⟨_, rfl⟩
  rw [← hr] at h2 h3
  have hno : okN l r s = false := by
    obtain ⟨d, hd1, hd2, hd3⟩ : ∃ d, 1 ≤ d ∧ d < l.length ∧ (s + d) % l.length = w := by
      rcases Nat.lt_or_gt_of_ne hne with h | h
      · exact ⟨w - s, by omega, by omega, by rw [show s + (w - s) = w from by omega, Nat.mod_eq_of_lt hw]⟩
      · exact ⟨w + l.length - s, by omega, by omega, by rw [show s + (w + l.length - s) = w + l.length from by omega, Nat.add_mod_right, Nat.mod_eq_of_lt hw]⟩
    unfold okN
    rcases Nat.lt_or_ge r d with hr9 | hr9
    · have hb : gD l s (l.length - 1) (l.length - d) = true := by
        unfold gD posD
        have e : s + (l.length - d) * (l.length - 1) = (s + d) + l.length * (l.length - d - 1) := by
          obtain ⟨k, hk⟩ : ∃ k, l.length = d + k + 1 := ⟨l.length - d - 1, by omega⟩
          rw [hk]
          have a1 : d + k + 1 - d = k + 1 := by omega
          have a2 : d + k + 1 - 1 = d + k := by omega
          rw [a1, a2, Nat.add_sub_cancel]
          rw [Nat.add_mul, Nat.add_mul, Nat.mul_add, Nat.one_mul, Nat.one_mul]
          rw [Nat.mul_comm k d]
          rw [Nat.add_mul]
          omega
        rw [e, Nat.add_mul_mod_self_left, hd3]
        simpa using hlt
      rw [ansN_no (k := 0) (m := r) (j := l.length - d) (by omega) (by omega) hb]
      simp
    · have hb : gD l s 1 d = true := by
        unfold gD posD
        rw [Nat.mul_one, hd3]
        simpa using hlt
      rw [ansN_no (k := 0) (m := r) (j := d) (by omega) (by omega) hb]
      rfl
  rw [alN, ← hr, hno]
  simp
theorem alL_one {A : Nat → Bool} {n w : Nat} (hw : w < n) (h1 : A w = true) (h2 : ∀ s, s < n → s ≠ w → A s = false) : alL A n = [(w : Int)] := by
  have none : ∀ m, (∀ s, s < m → A s = false) → alL A m = [] := by
    intro m
    induction m with
    | zero => intro _; rfl
    | succ m ih =>
      intro h
      rw [alL, if_neg (by rw [h m (by omega)]; simp), ih fun s hs => h s (by omega)]
  induction n with
  | zero => omega
  | succ n ih =>
    rw [alL]
    by_cases e : w = n
    · subst e
      rw [if_pos h1, none w fun s hs => h2 s (by omega) (by omega)]
      rfl
    · rw [if_neg (by rw [h2 n (by omega) (fun e2 => e e2.symm)]; simp)]
      exact ih (by omega) fun s hs hne => h2 s (by omega) hne
end Go.Proofs.Ytgmknndmmpoliaa
