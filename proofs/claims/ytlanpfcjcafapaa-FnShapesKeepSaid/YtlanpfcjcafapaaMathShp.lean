/-
  Mathematics of FnShapesKeep: what a shape keeps, loses, lets wait; a shape's shape; one more at a tick with something left; leaks.
-/
import Derived.Test.YtlanpfcjcafapaaMathSn
import Derived.Test.YtlanpfcjcafapaaMathHold
namespace Go.Proofs.Ytlanpfcjcafapaa
open Go.RowKit
set_option maxRecDepth 100000
set_option linter.unusedVariables false

theorem snE_end {x : Bu} {l : List Int} {t f n : Nat} (h : snE x l t f = some n) : snGo x l n = false := by
  induction f generalizing t with
  | zero =>
    rw [snE] at h
    split at h
    · cases h
    · injection h with h
      subst h
      simpa using ‹¬ snGo x l t = true›
  | succ f ih =>
    rw [snE] at h
    split at h
    · exact ih h
    · injection h with h
      subst h
      simpa using ‹¬ snGo x l t = true›
theorem snE_to {x : Bu} {l : List Int} {t f n : Nat} (h1 : ∀ k, t ≤ k → k < n → snGo x l k = true) (h2 : snGo x l n = false) (ht : t ≤ n) (hf : n ≤ t + f) : snE x l t f = some n := by
  induction f generalizing t with
  | zero =>
    obtain rfl : t = n := by omega
    rw [snE, h2]; rfl
  | succ f ih =>
    rw [snE]
    by_cases e : t = n
    · subst e; rw [h2]; rfl
    · rw [h1 t (Nat.le_refl _) (by omega), if_pos rfl]
      exact ih (fun k hk hn => h1 k (by omega) hn) (by omega) (by omega)
theorem shp_succ (x : Bu) (l : List Int) (t : Nat) : sumL (snT x l (t + 1)) = sumL (snT x l t) + snG x l t := by
  rw [snT_succ]
  have h := sumL_take (snT x l t ++ [snG x l t]) t (by simp [snT_length])
  rw [List.take_of_length_le (by simp [snT_length])] at h
  rw [h]
  have e1 : List.take t (snT x l t ++ [snG x l t]) = snT x l t := by
    rw [List.take_append_of_le_length (by simp [snT_length]), List.take_of_length_le (by simp [snT_length])]
  have e2 : (snT x l t ++ [snG x l t]).getD t 0 = snG x l t := by simp [List.getD, snT_length]
  rw [e1, e2]
/-- What has gone and what waits is what has come. -/
theorem shp_is (x : Bu) (l : List Int) (t : Nat) : sumL (snT x l t) + (snS x l t).2 = sumL (l.take t) := by
  induction t with
  | zero => simp [snT, snS, sumL]
  | succ t ih =>
    rw [shp_succ, come_succ, snS_succ]
    simp only
    omega
theorem shp_all {x : Bu} {l : List Int} (hx : buOk x = true) (hl : trOk l = true) {n : Nat} (h : snRg x l = some n) : l.length ≤ n ∧ sumL (snT x l n) = sumL l := by
  have h1 := snE_end h
  simp only [snGo, Bool.or_eq_false_iff, decide_eq_false_iff_not] at h1
  have h2 := (snS_in hx hl n).2.1
  have h3 := shp_is x l n
  rw [List.take_of_length_le (by omega)] at h3
  exact ⟨by omega, by omega⟩
theorem snM_ge (x : Bu) (l : List Int) {t n : Nat} (h : t < n) : (snS x l (t + 1)).2 ≤ snM x l n := by
  induction n with
  | zero => omega
  | succ n ih =>
    simp only [snM]
    by_cases e : t = n
    · subst e; omega
    · have := ih (by omega); omega
theorem snM_zero {x : Bu} {l : List Int} {n : Nat} (h : ∀ t, t < n → (snS x l (t + 1)).2 ≤ 0) : snM x l n ≤ 0 := by
  induction n with
  | zero => simp [snM]
  | succ n ih =>
    have h1 := ih (fun t ht => h t (by omega))
    have h2 := h n (by omega)
    simp only [snM]; omega
theorem snM_nn (x : Bu) (l : List Int) (n : Nat) : 0 ≤ snM x l n := by
  induction n with
  | zero => simp [snM]
  | succ n ih => simp only [snM]; omega
/-- Traffic that keeps its bucket goes through. -/
theorem kept_through {x : Bu} {l : List Int} {n : Nat} (hk : ∀ t, t < n → l.getD t 0 ≤ lvN x l t) (hl : ∀ t, 0 ≤ l.getD t 0) (t : Nat) (ht : t ≤ n) : snS x l t = (lvN x l t, 0) := by
  induction t with
  | zero => rfl
  | succ t ih =>
    have h1 := ih (by omega)
    have h2 := hk t (by omega)
    have h3 := hl t
    rw [snS_succ]
    simp only [snG, h1, lvN]
    ext <;> simp only <;> omega
theorem kp_back {x : Bu} {l : List Int} (hx : buOk x = true) (hl : trOk l = true) {n : Nat} (h : snRg x l = some n) : kpN x l l.length = decide (snM x l n = 0) := by
  have hn := (shp_all hx hl h).1
  cases hk : kpN x l l.length
  · symm
    rw [decide_eq_false_iff_not]
    intro h0
    have hz : ∀ t, t < n → (snS x l (t + 1)).2 ≤ 0 := fun t ht => by have := snM_ge x l ht; omega
    have hlv : ∀ t, t ≤ l.length → snS x l t = (lvN x l t, 0) ∧ kpN x l t = true := by
      intro t
      induction t with
      | zero => intro _; exact ⟨rfl, rfl⟩
      | succ t ih =>
        intro ht
        obtain ⟨h1, h2⟩ := ih (by omega)
        have h3 := hz t (by omega)
        have h4 := trOk_at hl t
        rw [snS_succ] at h3
        simp only [snG, h1] at h3
        have h5 : l.getD t 0 ≤ lvN x l t := by omega
        refine ⟨?_, kpN_succ h2 h5⟩
        rw [snS_succ]
        simp only [snG, h1, lvN]
        ext <;> simp only <;> omega
    have := (hlv l.length (Nat.le_refl _)).2
    rw [this] at hk
    cases hk
  · symm
    rw [decide_eq_true_eq]
    have h1 : ∀ t, t < l.length → l.getD t 0 ≤ lvN x l t := fun t ht => kpN_le hk ht
    have h2 := kept_through (n := l.length) h1 (fun t => (trOk_at hl t).1)
    have h4 : n ≤ l.length := by
      rcases Nat.lt_or_ge l.length n with h5 | h5
      · exfalso
        have h6 : snE x l 0 100 = some l.length := snE_to (fun k _ hk => by simp [snGo, hk]) (by simp [snGo, h2 l.length (Nat.le_refl _)]) (Nat.zero_le _) (by have := trOk_len hl; omega)
        rw [snRg, h6] at h
        injection h with h
        omega
      · exact h5
    have h3 : snM x l n ≤ 0 := snM_zero fun t ht => by rw [h2 (t + 1) (by omega)]; exact Int.le_refl _
    have := snM_nn x l n
    omega
theorem cutF_at {P : Nat → Int} {c : Int} {i f : Nat} (h : cutF P c i f < i + f) : c ≤ P (cutF P c i f) := by
  induction f generalizing i with
  | zero => simp [cutF] at h
  | succ f ih =>
    rw [cutF] at h ⊢
    split
    · assumption
    · rename_i hn
      rw [if_neg hn] at h
      exact ih (by omega)
theorem goneP_snT (x : Bu) (l : List Int) {n t : Nat} (ht : t < n) : goneP (snT x l n) t = sumL (snT x l (t + 1)) := by
  unfold goneP
  congr 1
  simp only [snT, ← List.map_take, List.take_range]
  rw [Nat.min_eq_left (by omega)]
theorem dl_back {x : Bu} {l : List Int} (hx : buOk x = true) (hl : trOk l = true) {n : Nat} (h : snRg x l = some n) : decide (dlN l (snT x l n) l.length = 0) = decide (snM x l n = 0) := by
  have hn := shp_all hx hl h
  have hn1 : n ≤ 100 := snRg_le h
  have hm := snM_nn x l n
  have hall : ∀ t, goneP (snT x l n) t = sumL (snT x l (t + 1)) ∨ n ≤ t := fun t => by
    rcases Nat.lt_or_ge t n with h1 | h1
    · exact .inl (goneP_snT x l h1)
    · exact .inr h1
  have hdl := fun s => dlN_in l (snT x l n) (by rw [snT_length]; exact hn1) s
  rcases Decidable.em (snM x l n = 0) with h0 | h0
  · rw [decide_eq_true h0, decide_eq_true_eq]
    have key : ∀ s, s ≤ l.length → dlN l (snT x l n) s ≤ 0 := by
      intro s
      induction s with
      | zero => intro _; simp [dlN]
      | succ s ih =>
        intro hs
        have h1 := ih (by omega)
        have h2 : cutO (snT x l n) (sumL (l.take (s + 1))) ≤ s := by
          have h3 := snM_ge x l (t := s) (n := n) (by omega)
          have h4 := shp_is x l (s + 1)
          exact cutF_to (Nat.zero_le _) (by rw [goneP_snT x l (by omega)]; omega)
        simp only [dlN]
        split <;> omega
    have := key l.length (Nat.le_refl _)
    have := hdl l.length
    omega
  · rw [decide_eq_false h0, decide_eq_false_iff_not]
    intro hd
    apply h0
    have hmono : ∀ s, s ≤ l.length → dlN l (snT x l n) s ≤ dlN l (snT x l n) l.length := by
      intro s hs
      obtain ⟨k, hk⟩ : ∃ k, s + k = l.length := ⟨l.length - s, by omega⟩
      rw [← hk]
      clear hk hs
      induction k with
      | zero => exact Int.le_refl _
      | succ k ih =>
        rw [show s + (k + 1) = (s + k) + 1 by omega]
        simp only [dlN]
        split <;> omega
    have key : ∀ t, t ≤ n → (snS x l t).2 ≤ 0 := by
      intro t
      induction t with
      | zero => intro _; exact Int.le_refl _
      | succ t ih =>
        intro ht
        have h1 := ih (by omega)
        have h1' := (snS_in hx hl t).2.1
        have h5 := (snS_in hx hl t).1
        rw [snS_succ]
        by_cases h2 : 0 < l.getD t 0
        · have h3 : t < l.length := by
            rcases Nat.lt_or_ge t l.length with h6 | h6
            · exact h6
            · simp [List.getD, h6] at h2
          have h4 := hmono (t + 1) (by omega)
          simp only [dlN, if_pos h2] at h4
          have h6 : cutO (snT x l n) (sumL (l.take (t + 1))) ≤ t := by omega
          have h7 : sumL (l.take (t + 1)) ≤ goneP (snT x l n) (cutO (snT x l n) (sumL (l.take (t + 1)))) := by
            have e := snT_length x l n
            exact cutF_at (i := 0) (f := (snT x l n).length) (by show cutO (snT x l n) (sumL (l.take (t + 1))) < 0 + (snT x l n).length; omega)
          have h8 : goneP (snT x l n) (cutO (snT x l n) (sumL (l.take (t + 1)))) ≤ goneP (snT x l n) t :=
            sumL_ge (snT_mem hx hl n) (by omega) (by rw [snT_length]; omega)
          rw [goneP_snT x l (t := t) (n := n) (by omega)] at h8
          have h9 := shp_is x l (t + 1)
          rw [snS_succ] at h9
          simp only at h9 ⊢
          omega
        · have h3 := trOk_at hl t
          simp only [snG]
          omega
    have h7 : snM x l n ≤ 0 := snM_zero fun t ht => key (t + 1) (by omega)
    omega
/-- A shape's own levels. -/
theorem shp_lv (x : Bu) (l : List Int) (n t : Nat) (ht : t ≤ n) : lvN x (snT x l n) t = (snS x l t).1 := by
  induction t with
  | zero => rfl
  | succ t ih =>
    simp only [lvN, snS_succ]
    rw [ih (by omega), snT_at _ _ _ _ (by omega)]
theorem snG_le (x : Bu) (l : List Int) (t : Nat) : snG x l t ≤ (snS x l t).1 := by unfold snG; omega
theorem shp_keeps {x : Bu} {l : List Int} {n : Nat} (hx : buOk x = true) (hs : trOk (snT x l n) = true) : kpSays x (snT x l n) = (true, true) := by
  have h1 : ∀ t, t ≤ n → kpN x (snT x l n) t = true := by
    intro t
    induction t with
    | zero => intro _; rfl
    | succ t ih =>
      intro ht
      refine kpN_succ (ih (by omega)) ?_
      rw [shp_lv _ _ _ _ (by omega), snT_at _ _ _ _ (by omega)]
      exact snG_le x l t
  have h2 : kpN x (snT x l n) (snT x l n).length = true := h1 _ (by rw [snT_length]; exact Nat.le_refl _)
  simp [kpSays, askOk, hx, hs, h2]
theorem shp_again {x : Bu} {l : List Int} {n : Nat} (hx : buOk x = true) (hl : trOk l = true) (h : snRg x l = some n) (hs : trOk (snT x l n) = true) : shpSays x (snT x l n) = (snT x l n, true) := by
  have hk : ∀ t, t < n → (snT x l n).getD t 0 ≤ lvN x (snT x l n) t := fun t ht => by
    rw [shp_lv _ _ _ _ (by omega), snT_at _ _ _ _ ht]
    exact snG_le x l t
  have h1 := kept_through (x := x) (l := snT x l n) hk (fun t => (trOk_at hs t).1)
  have hn : n ≤ 40 := by have := trOk_len hs; rw [snT_length] at this; exact this
  have h2 : snRg x (snT x l n) = some n := snE_to (fun k _ hk => by simp [snGo, snT_length, hk]) (by simp [snGo, snT_length, h1 n (Nat.le_refl _)]) (Nat.zero_le _) (by omega)
  have h3 : snT x (snT x l n) n = snT x l n := by
    refine List.map_congr_left fun t ht => ?_
    have ht : t < n := List.mem_range.1 ht
    have h4 := hk t ht
    have h5 := (trOk_at hs t).1
    simp only [snG, h1 t (by omega)]
    rw [snT_at _ _ _ _ ht] at h4 h5 ⊢
    simp only [snG] at h4 h5 ⊢
    omega
  simp only [shpSays, askOk, hx, hs, Bool.and_self, if_true, h2, outO, h3]
/-- One more at a tick with something left. -/
theorem shp_more {x : Bu} {l : List Int} {n t : Nat} (hx : buOk x = true) (hl : trOk l = true) (hs : trOk (snT x l n) = true) (ht : t < n) (hw : 0 < (snS x l (t + 1)).2) (hg : snG x l t < 1000) :
    kpSays x (snT x l t ++ [snG x l t + 1]) = (false, true) := by
  have h1 : trOk (snT x l t ++ [snG x l t + 1]) = true := by
    have hn : n ≤ 40 := by have := trOk_len hs; rw [snT_length] at this; exact this
    have h2 := snG_in hx hl t
    rw [trOk_short (by simp [snT_length]; omega)]
    simp only [okAll, List.all_eq_true, decide_eq_true_eq]
    intro y hy
    rcases List.mem_append.1 hy with hy | hy
    · exact snT_mem hx hl t y hy
    · obtain rfl : y = snG x l t + 1 := by simpa using hy
      omega
  have h3 : lvN x (snT x l t ++ [snG x l t + 1]) t = (snS x l t).1 := by
    have : ∀ k, k ≤ t → lvN x (snT x l t ++ [snG x l t + 1]) k = lvN x (snT x l t) k := by
      intro k
      induction k with
      | zero => intro _; rfl
      | succ k ih =>
        intro hk
        simp only [lvN]
        rw [ih (by omega)]
        have : (snT x l t ++ [snG x l t + 1]).getD k 0 = (snT x l t).getD k 0 := by
          simp [List.getD, List.getElem?_append_left, snT_length, show k < t by omega]
        rw [this]
    rw [this t (Nat.le_refl _), shp_lv _ _ _ _ (Nat.le_refl _)]
  have h4 : (snT x l t ++ [snG x l t + 1]).getD t 0 = snG x l t + 1 := by simp [List.getD, snT_length]
  have h5 : kpN x (snT x l t ++ [snG x l t + 1]) (snT x l t ++ [snG x l t + 1]).length = false := by
    refine kpN_no (k := t) ?_ (by simp [snT_length])
    rw [h3, h4]
    rw [snS_succ] at hw
    simp only [snG] at hw ⊢
    omega
  simp only [kpSays, askOk, hx, h1, Bool.and_self, if_true, h5]

/-- What the law asks of a shape. -/
theorem shp_snd (x : Bu) (l : List Int) : (backSays x l).2 = (shpSays x l).2 ∧ (delSays x l).2 = (shpSays x l).2 := by
  unfold backSays delSays shpSays
  split
  · cases snRg x l <;> simp [optM, optD, outO]
  · simp
theorem shp_true {x : Bu} {l : List Int} (h : (shpSays x l).2 = true) : buOk x = true ∧ trOk l = true ∧ ∃ n, snRg x l = some n ∧ n ≤ 100 ∧ l.length ≤ n ∧ sumL (snT x l n) = sumL l ∧ (shpSays x l).1 = snT x l n ∧ (backSays x l).1 = snM x l n ∧ (delSays x l).1 = dlN l (snT x l n) l.length := by
  cases ha : askOk x l
  · simp [shpSays, ha] at h
  · obtain ⟨h1, h2⟩ := askOk_in ha
    cases hr : snRg x l with
    | none => simp [shpSays, ha, hr, outO] at h
    | some n =>
      have h3 := shp_all h1 h2 hr
      exact ⟨h1, h2, n, rfl, snRg_le hr, h3.1, h3.2, by simp [shpSays, ha, hr, outO], by simp [backSays, ha, hr, optM], by simp [delSays, ha, hr, optD]⟩
theorem leak_true {r : Int} {l : List Int} (h : (leakSays r l).2 = true) : (1 ≤ r ∧ r ≤ 100) ∧ trOk l = true ∧ sumL (leakSays r l).1 = sumL l ∧ (leakSays r l).1.length ≤ 100 ∧ (∀ y ∈ (leakSays r l).1, 0 ≤ y ∧ y ≤ r) ∧ shpSays ⟨r, r⟩ l = ((leakSays r l).1, true) := by
  cases ha : (wi r 1 100 && trOk l)
  · simp [leakSays, ha] at h
  · have ha' := ha
    simp only [Bool.and_eq_true] at ha'
    have hr0 : 1 ≤ r ∧ r ≤ 100 := by simpa [wi] using ha'.1
    have hb : buOk ⟨r, r⟩ = true := by simp [buOk, wi]; omega
    cases hr : snRg ⟨r, r⟩ l with
    | none => simp [leakSays, ha, hr, outO] at h
    | some n =>
      have h3 := shp_all hb ha'.2 hr
      have e1 : leakSays r l = (snT ⟨r, r⟩ l n, true) := by simp [leakSays, ha, hr, outO]
      rw [e1]
      refine ⟨hr0, ha'.2, h3.2, by simp only [snT_length]; exact snRg_le hr, ?_, by simp [shpSays, askOk, hb, ha'.2, hr, outO]⟩
      intro y hy
      obtain ⟨t, _, rfl⟩ := List.mem_map.1 hy
      have h4 := snG_le ⟨r, r⟩ l t
      have h5 := (snS_in hb ha'.2 t).1.2
      have h6 := (snG_in hb ha'.2 t).1
      simp only at h5
      omega
/-- What the law's loops go by. -/
structure ShF (x : Bu) (l S : List Int) (M : Int) : Prop where
  bu : buOk x = true
  tr : trOk l = true
  len : S.length ≤ 100
  long : l.length ≤ S.length
  sum : sumL S = sumL l
  mem : ∀ y ∈ S, 0 ≤ y ∧ y ≤ 1000
  top : snM x l S.length = M
  kept : kpN x l l.length = decide (M = 0)
  cell : ∀ j, j < S.length → 0 ≤ S.getD j 0 ∧ S.getD j 0 ≤ 1000
  come : ∀ j, j < S.length → sumL (l.take (j + 1)) = sumL (l.take j) + l.getD j 0 ∧ 0 ≤ sumL (l.take j) ∧ sumL (l.take j) ≤ 100000 ∧ 0 ≤ l.getD j 0 ∧ l.getD j 0 ≤ 1000
  gone : ∀ j, j < S.length → sumL (S.take (j + 1)) = sumL (S.take j) + S.getD j 0 ∧ 0 ≤ sumL (S.take j) ∧ sumL (S.take j) ≤ 100000
  wait : ∀ j, j < S.length → snM x l (j + 1) = max (snM x l j) (sumL (l.take (j + 1)) - sumL (S.take (j + 1))) ∧ sumL (S.take (j + 1)) ≤ sumL (l.take (j + 1)) ∧ sumL (l.take (j + 1)) - sumL (S.take (j + 1)) ≤ M ∧ 0 ≤ snM x l j ∧ snM x l j ≤ 100000
  most : 0 ≤ M ∧ M ≤ 100000
  keeps : trOk S = true → kpSays x S = (true, true) ∧ shpSays x S = (S, true)
  more : ∀ j, j < S.length → trOk S = true → sumL (S.take (j + 1)) < sumL (l.take (j + 1)) → S.getD j 0 < 1000 → kpSays x ((S.take (j + 1)).set j (S.getD j 0 + 1)) = (false, true)
theorem snT_take (x : Bu) (l : List Int) {n j : Nat} (h : j ≤ n) : (snT x l n).take j = snT x l j := by
  simp only [snT, ← List.map_take, List.take_range]
  rw [Nat.min_eq_left h]
theorem sumL_nn {o : List Int} (h : ∀ y ∈ o, 0 ≤ y ∧ y ≤ 1000) : 0 ≤ sumL o ∧ sumL o ≤ 1000 * o.length := by
  have := sumL_bound o 1000 h o.length (Nat.le_refl _)
  rwa [List.take_length] at this
theorem shF_of {x : Bu} {l : List Int} (h : (shpSays x l).2 = true) : ShF x l (shpSays x l).1 (backSays x l).1 ∧ decide ((delSays x l).1 = 0) = decide ((backSays x l).1 = 0) := by
  obtain ⟨h1, h2, n, h3, h4, h5, h6, h7, h8, h9⟩ := shp_true h
  rw [h7, h8, h9]
  have hm := snT_mem h1 h2 n
  refine ⟨⟨h1, h2, by rw [snT_length]; exact h4, by rw [snT_length]; exact h5, h6, hm, by rw [snT_length], kp_back h1 h2 h3, ?_, ?_, ?_, ?_, snM_in h1 h2 n h4, fun hs => ⟨shp_keeps h1 hs, shp_again h1 h2 h3 hs⟩, ?_⟩, dl_back h1 h2 h3⟩
  all_goals
    intro j hj
    rw [snT_length] at hj
  · rw [snT_at _ _ _ _ hj]; exact snG_in h1 h2 j
  · have q := trOk_at h2 j
    have q1 := sumL_nn (o := l.take j) (fun y hy => trOk_mem h2 y (List.mem_of_mem_take hy))
    have q2 : (l.take j).length ≤ 100 := by have := trOk_len h2; simp; omega
    exact ⟨come_succ l j, q1.1, by omega, q.1, q.2⟩
  · rw [snT_take x l (by omega), snT_take x l (by omega), shp_succ, snT_at _ _ _ _ hj]
    have q1 := sumL_nn (snT_mem h1 h2 j)
    rw [snT_length] at q1
    exact ⟨rfl, q1.1, by omega⟩
  · rw [snT_take x l (by omega)]
    have q1 := shp_is x l (j + 1)
    have q2 := (snS_in h1 h2 (j + 1)).2.1
    have q3 := snM_ge x l hj
    have q4 := snM_in h1 h2 j (by omega)
    refine ⟨?_, by omega, by omega, q4.1, q4.2⟩
    simp only [snM]
    omega
  · intro hs hw hg
    rw [snT_at _ _ _ _ hj] at hg ⊢
    rw [snT_take x l (by omega)] at hw ⊢
    have q1 := shp_is x l (j + 1)
    have e : (snT x l (j + 1)).set j (snG x l j + 1) = snT x l j ++ [snG x l j + 1] := by
      rw [snT_succ, List.set_append_right j _ (by rw [snT_length]; exact Nat.le_refl _), snT_length, Nat.sub_self, List.set_cons_zero]
    rw [e]
    exact shp_more h1 h2 hs hj (by omega) hg
end Go.Proofs.Ytlanpfcjcafapaa
