/-
  Mathematics of FnTrafficAdded: sums of traffic, joined buckets, windows.
-/
import Derived.Test.YtfncajdhdcpooaaDoorCurB
import Derived.Test.YtfncajdhdcpooaaDoorMathKp
namespace Go.Proofs.YtfncajdhdcpooaaDoor
open Go.RowKit
set_option maxRecDepth 100000
set_option linter.unusedVariables false

theorem cm_succ (l : List Int) (t : Nat) : sumL (l.take (t + 1)) = sumL (l.take t) + l.getD t 0 := by
  rcases Nat.lt_or_ge t l.length with h | h
  · exact sumL_take l t h
  · have e : l.getD t 0 = 0 := by simp [List.getD, h]
    rw [List.take_of_length_le h, List.take_of_length_le (by omega), e]
    omega
theorem cm_le {l : List Int} (hl : trOk l = true) {s t : Nat} (h : s ≤ t) : sumL (l.take s) ≤ sumL (l.take t) := by
  induction t with
  | zero => obtain rfl : s = 0 := by omega
            exact Int.le_refl _
  | succ t ih =>
    by_cases e : s = t + 1
    · rw [e]; exact Int.le_refl _
    · have h1 := ih (by omega)
      have h2 := trOk_at hl t
      rw [cm_succ]
      omega
theorem win_cm (l : List Int) (s k : Nat) : sumL ((l.drop s).take k) = sumL (l.take (s + k)) - sumL (l.take s) := by
  induction k with
  | zero => simp [sumL]
  | succ k ih =>
    have h1 := cm_succ (l.drop s) k
    have h2 := cm_succ l (s + k)
    have h3 : (l.drop s).getD k 0 = l.getD (s + k) 0 := by simp [List.getD]
    rw [h1, ih, h3, ← Nat.add_assoc, h2]
    omega
/-- No window is more than the greatest. -/
theorem wn_ge {l : List Int} {s k : Nat} (h : s + k ≤ l.length) : sumL (l.take (s + k)) - sumL (l.take s) ≤ wnX l k := by
  rw [← win_cm]
  refine (mxF_mem sumL 0 _).2.2 _ ?_
  exact List.mem_map.2 ⟨s, List.mem_range.2 (by omega), rfl⟩
theorem wn_nn (l : List Int) (k : Nat) : 0 ≤ wnX l k := (mxF_mem sumL 0 _).2.1
/-- One is the greatest. -/
theorem wn_at {l : List Int} (hl : trOk l = true) {k : Nat} (hk : k ≤ l.length) : ∃ s, s + k ≤ l.length ∧ wnX l k = sumL (l.take (s + k)) - sumL (l.take s) := by
  rcases (mxF_mem sumL 0 (wnL l k (l.length + 1 - k))).1 with h | ⟨r, hr, h⟩
  · refine ⟨0, by omega, ?_⟩
    have h1 := wn_ge (l := l) (s := 0) (k := k) (by omega)
    have h2 := cm_le hl (s := 0) (t := 0 + k) (by omega)
    have h3 : wnX l k = 0 := h
    omega
  · obtain ⟨s, hs, rfl⟩ := List.mem_map.1 hr
    have hs := List.mem_range.1 hs
    refine ⟨s, by omega, ?_⟩
    rw [← win_cm]
    exact h.symm
theorem wn_mono {l : List Int} (hl : trOk l = true) {k : Nat} (hk : k + 1 ≤ l.length) : wnX l k ≤ wnX l (k + 1) := by
  obtain ⟨s, hs, e⟩ := wn_at hl (k := k) (by omega)
  by_cases h : s + (k + 1) ≤ l.length
  · have h1 := wn_ge h
    have h2 := cm_le hl (s := s + k) (t := s + (k + 1)) (by omega)
    omega
  · have h1 := wn_ge (l := l) (s := s - 1) (k := k + 1) (by omega)
    have h2 := cm_le hl (s := s - 1) (t := s) (by omega)
    rw [show s - 1 + (k + 1) = s + k by omega] at h1
    omega
theorem wn_sub {l : List Int} (hl : trOk l = true) {p q : Nat} (h : p + q ≤ l.length) : wnX l (p + q) ≤ wnX l p + wnX l q := by
  obtain ⟨s, hs, e⟩ := wn_at hl h
  have h1 := wn_ge (l := l) (s := s) (k := p) (by omega)
  have h2 := wn_ge (l := l) (s := s + p) (k := q) (by omega)
  rw [show s + p + q = s + (p + q) by omega] at h2
  omega
theorem wn_all {l : List Int} (hl : trOk l = true) : wnX l l.length = sumL l := by
  obtain ⟨s, hs, e⟩ := wn_at hl (Nat.le_refl l.length)
  obtain rfl : s = 0 := by omega
  rw [e, Nat.zero_add, List.take_length, List.take_zero]
  simp [sumL]
theorem mstN_ge (l : List Int) {k n : Nat} (h : k < n) : l.getD k 0 ≤ mstN l n := by
  induction n with
  | zero => omega
  | succ n ih =>
    simp only [mstN]
    by_cases e : k = n
    · subst e; split <;> omega
    · have := ih (by omega)
      split <;> omega
theorem wn_one {l : List Int} (hl : trOk l = true) (h : 0 < l.length) : wnX l 1 = mstN l l.length := by
  refine Int.le_antisymm ?_ (mstN_to (wn_nn l 1) (fun k => ?_) _)
  · obtain ⟨s, hs, e⟩ := wn_at hl (k := 1) (by omega)
    rw [e, cm_succ]
    have := mstN_ge l (k := s) (n := l.length) (by omega)
    omega
  · rcases Nat.lt_or_ge k l.length with h1 | h1
    · have h2 := wn_ge (l := l) (s := k) (k := 1) (by omega)
      rw [cm_succ] at h2
      omega
    · have : l.getD k 0 = 0 := by simp [List.getD, h1]
      rw [this]; exact wn_nn l 1
/-- Windows, as the law asks for them. -/
structure WnF (l W : List Int) : Prop where
  tr : trOk l = true
  len : W.length = l.length
  l40 : l.length ≤ 40
  bnd : ∀ i, i < W.length → 0 ≤ W.getD i 0 ∧ W.getD i 0 ≤ 40000
  last : 0 < l.length → W.getD (W.length - 1) 0 = sumL l
  first : 0 < l.length → W.getD 0 0 = mstN l l.length
  mono : ∀ i, i + 1 < W.length → W.getD i 0 ≤ W.getD (i + 1) 0
  sub : ∀ i k, i + k + 1 < W.length → W.getD (i + k + 1) 0 ≤ W.getD i 0 + W.getD k 0
theorem wnT_at (l : List Int) (n i : Nat) (h : i < n) : (wnT l n).getD i 0 = wnX l (i + 1) := by simp [wnT, List.getD, h]
theorem wnF_of {l : List Int} (h : (wnSays l).2 = true) : WnF l (wnSays l).1 := by
  cases ha : trOk l
  · simp [wnSays, ha] at h
  · have e : wnSays l = (wnT l l.length, true) := by simp [wnSays, ha]
    rw [e]
    have h40 := trOk_len ha
    refine ⟨ha, wnT_length _ _, h40, ?_, ?_, ?_, ?_, ?_⟩
    · intro i hi
      simp only [wnT_length] at hi
      simp only [wnT_at _ _ _ hi]
      obtain ⟨s, hs, e⟩ := wn_at ha (k := i + 1) (by omega)
      have h1 := win_sum ha s (i + 1)
      rw [win_cm] at h1
      have := wn_nn l (i + 1)
      omega
    · intro h0
      simp only [wnT_length]
      rw [wnT_at _ _ _ (by omega), show l.length - 1 + 1 = l.length by omega]
      exact wn_all ha
    · intro h0
      simp only
      rw [wnT_at _ _ _ h0]
      exact wn_one ha h0
    · intro i hi
      simp only [wnT_length] at hi
      simp only
      rw [wnT_at _ _ _ (by omega), wnT_at _ _ _ hi]
      exact wn_mono ha (by omega)
    · intro i k hi
      simp only [wnT_length] at hi
      simp only
      rw [wnT_at _ _ _ (by omega), wnT_at _ _ _ (by omega), wnT_at _ _ _ (by omega), show i + k + 1 + 1 = (i + 1) + (k + 1) by omega]
      exact wn_sub ha (by omega)

theorem addT_sum (a b : List Int) (k : Nat) : sumL (addT a b k) = sumL (a.take k) + sumL (b.take k) := by
  induction k with
  | zero => simp [addT, sumL]
  | succ k ih =>
    rw [addT_succ, cm_succ a, cm_succ b]
    have h := sumL_take (addT a b k ++ [a.getD k 0 + b.getD k 0]) k (by simp [addT_length])
    rw [List.take_of_length_le (by simp [addT_length])] at h
    rw [h]
    have e1 : List.take k (addT a b k ++ [a.getD k 0 + b.getD k 0]) = addT a b k := by
      rw [List.take_append_of_le_length (by simp [addT_length]), List.take_of_length_le (by simp [addT_length])]
    have e2 : (addT a b k ++ [a.getD k 0 + b.getD k 0]).getD k 0 = a.getD k 0 + b.getD k 0 := by simp [List.getD, addT_length]
    rw [e1, e2, ih]
    omega
theorem addT_at (a b : List Int) (n i : Nat) (h : i < n) : (addT a b n).getD i 0 = a.getD i 0 + b.getD i 0 := by simp [addT, List.getD, h]
theorem add_true {a b : List Int} (h : (addSays a b).2 = true) : trOk a = true ∧ trOk b = true ∧ trOk (addL a b) = true ∧ (addSays a b).1 = addL a b ∧ sumL (addL a b) = sumL a + sumL b := by
  cases ha : (trOk a && trOk b)
  · simp [addSays, ha] at h
  · have ha' := ha
    simp only [Bool.and_eq_true] at ha'
    cases hs : trOk (addL a b)
    · simp [addSays, ha, hs] at h
    · refine ⟨ha'.1, ha'.2, rfl, by simp [addSays, ha, hs], ?_⟩
      rw [addL, addT_sum, List.take_of_length_le (Nat.le_max_left _ _), List.take_of_length_le (Nat.le_max_right _ _)]
theorem join_true {x y : Bu} (h : (joinSays x y).2 = true) : buOk x = true ∧ buOk y = true ∧ buOk (joinB x y) = true ∧ (joinSays x y).1 = joinB x y := by
  cases ha : (buOk x && buOk y && buOk (joinB x y))
  · simp [joinSays, ha] at h
  · have ha' := ha
    simp only [Bool.and_eq_true] at ha'
    exact ⟨ha'.1.1, ha'.1.2, ha'.2, by simp [joinSays, ha]⟩
theorem kp_tail {b : Bu} {l : List Int} (hb : buOk b = true) (hl : trOk l = true) (hk : kpN b l l.length = true) (k : Nat) : kpN b l k = true := by
  induction k with
  | zero => rfl
  | succ k ih =>
    refine kpN_succ ih ?_
    rcases Nat.lt_or_ge k l.length with h | h
    · exact kpN_le hk h
    · have e : l.getD k 0 = 0 := by simp [List.getD, h]
      have := (lvN_in hb hl k ih).1
      omega
/-- What keeps two buckets keeps, added up, the joined one. -/
theorem join_keeps {x y : Bu} {a b : List Int} (hx : buOk x = true) (hy : buOk y = true) (ha : trOk a = true) (hb : trOk b = true) (h1 : kpN x a a.length = true) (h2 : kpN y b b.length = true) : kpN (joinB x y) (addL a b) (addL a b).length = true := by
  have key : ∀ t, t ≤ max a.length b.length → kpN (joinB x y) (addL a b) t = true ∧ lvN x a t + lvN y b t ≤ lvN (joinB x y) (addL a b) t := by
    intro t
    induction t with
    | zero => intro _; exact ⟨rfl, by simp [lvN, joinB]⟩
    | succ t ih =>
      intro ht
      obtain ⟨q1, q2⟩ := ih (by omega)
      have q3 := kpN_le (kp_tail hx ha h1 (t + 1)) (Nat.lt_succ_self t)
      have q4 := kpN_le (kp_tail hy hb h2 (t + 1)) (Nat.lt_succ_self t)
      have q5 : (addL a b).getD t 0 = a.getD t 0 + b.getD t 0 := addT_at a b _ t (by omega)
      refine ⟨kpN_succ q1 (by rw [q5]; omega), ?_⟩
      simp only [lvN, q5]
      simp only [joinB] at q2 ⊢
      omega
  exact (key _ (by rw [addL, addT_length]; exact Nat.le_refl _)).1
/-- What the law asks of both. -/
theorem both_add {a b : List Int} {x y : Bu} (h1 : (addSays a b).2 = true) (h2 : (joinSays x y).2 = true) : (kpSays x a).2 = true ∧ (kpSays y b).2 = true ∧ (kpSays (joinSays x y).1 (addSays a b).1).2 = true ∧ ((kpSays x a).1 = true → (kpSays y b).1 = true → (kpSays (joinSays x y).1 (addSays a b).1).1 = true) := by
  obtain ⟨p1, p2, p3, p4, p5⟩ := add_true h1
  obtain ⟨q1, q2, q3, q4⟩ := join_true h2
  rw [p4, q4]
  simp only [kpSays, askOk, p1, p2, p3, q1, q2, q3, Bool.and_self, if_true, true_and]
  exact fun k1 k2 => join_keeps q1 q2 p1 p2 k1 k2
end Go.Proofs.YtfncajdhdcpooaaDoor
