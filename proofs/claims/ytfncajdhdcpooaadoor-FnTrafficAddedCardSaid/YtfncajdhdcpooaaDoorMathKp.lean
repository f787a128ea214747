/-
  Mathematics of FnBucketsKept: levels and stretches say the same; first breaches, least depths, least rates. No dump is imported but for the small words on bounds.
-/
import Derived.Test.YtfncajdhdcpooaaDoorMathSh
namespace Go.Proofs.YtfncajdhdcpooaaDoor
open Go.RowKit
set_option maxRecDepth 100000
set_option linter.unusedVariables false

theorem sumB_front (l : List Int) (t k : Nat) : sumB l (t + 1) (k + 1) = l.getD (t + 1) 0 + sumB l t k := by
  induction k with
  | zero => simp [sumB]
  | succ k ih =>
    have e : sumB l (t + 1) (k + 1 + 1) = sumB l (t + 1) (k + 1) + l.getD (t + 1 - (k + 1)) 0 := rfl
    have e2 : sumB l t (k + 1) = sumB l t k + l.getD (t - k) 0 := rfl
    rw [e, ih, e2, show t + 1 - (k + 1) = t - k by omega]
    omega
theorem mul_succ' (r : Int) (k : Nat) : r * ((k + 1 : Nat) : Int) = r * (k : Int) + r := by
  rw [show ((k + 1 : Nat) : Int) = (k : Int) + 1 by omega, Int.mul_add, Int.mul_one]
theorem lvN_le (b : Bu) (l : List Int) (t : Nat) : lvN b l t ≤ b.d := by
  cases t with
  | zero => exact Int.le_refl _
  | succ t => simp only [lvN]; omega
/-- No stretch up to the tick t is greater than what the level has lost and what comes. -/
theorem need_le (b : Bu) (l : List Int) (t k : Nat) (hk : k ≤ t) : sumB l t (k + 1) - b.r * (k : Int) ≤ b.d - lvN b l t + l.getD t 0 := by
  induction t generalizing k with
  | zero =>
    obtain rfl : k = 0 := by omega
    simp [sumB, lvN]
  | succ t ih =>
    have h0 := lvN_le b l (t + 1)
    cases k with
    | zero =>
      have e : sumB l (t + 1) (0 + 1) = l.getD (t + 1) 0 := by simp [sumB]
      rw [e]
      simp only [Int.natCast_zero, Int.mul_zero]
      omega
    | succ k =>
      have h1 := ih k (by omega)
      rw [sumB_front, mul_succ']
      simp only [lvN]
      omega
/-- One is just as great. -/
theorem need_at (b : Bu) (l : List Int) (t : Nat) : ∃ k, k ≤ t ∧ sumB l t (k + 1) - b.r * (k : Int) = b.d - lvN b l t + l.getD t 0 := by
  induction t with
  | zero => exact ⟨0, Nat.le_refl _, by simp [sumB, lvN]⟩
  | succ t ih =>
    obtain ⟨k, hk, h1⟩ := ih
    by_cases h : lvN b l t - l.getD t 0 + b.r ≤ b.d
    · refine ⟨k + 1, by omega, ?_⟩
      rw [sumB_front, mul_succ']
      simp only [lvN]
      omega
    · refine ⟨0, by omega, ?_⟩
      have e : sumB l (t + 1) (0 + 1) = l.getD (t + 1) 0 := by simp [sumB]
      rw [e]
      simp only [Int.natCast_zero, Int.mul_zero, lvN]
      omega
theorem kpN_iff_lv (b : Bu) (l : List Int) (n : Nat) : kpN b l n = true ↔ ∀ t, t < n → l.getD t 0 ≤ lvN b l t := by
  constructor
  · intro h t ht
    exact kpN_le h ht
  · intro h
    induction n with
    | zero => rfl
    | succ n ih => exact kpN_succ (ih fun t ht => h t (by omega)) (h n (by omega))
/-- Traffic keeps a bucket just if no stretch of it is too great. -/
theorem kp_iff (b : Bu) (l : List Int) (n : Nat) : kpN b l n = true ↔ ∀ t, t < n → ∀ k, k ≤ t → sumB l t (k + 1) - b.r * (k : Int) ≤ b.d := by
  rw [kpN_iff_lv]
  constructor
  · intro h t ht k hk
    have h1 := need_le b l t k hk
    have h2 := h t ht
    omega
  · intro h t ht
    obtain ⟨k, hk, h1⟩ := need_at b l t
    have h2 := h t ht k hk
    omega
theorem needS_stB (r : Int) (l : List Int) (t k : Nat) : needS r (stB l t k) = sumB l t (k + 1) - r * (k : Int) := by
  simp only [needS, stB]
  rw [show (t : Int) - ((t : Int) - (k : Int)) = (k : Int) by omega]
theorem stI_mem {l : List Int} {t m : Nat} {y : St} (h : y ∈ stI l t m) : ∃ k, k < m ∧ y = stB l t k := by
  obtain ⟨k, hk, rfl⟩ := List.mem_map.1 h
  exact ⟨k, by simpa using hk, rfl⟩
theorem stA_mem {l : List Int} {n : Nat} {y : St} : y ∈ stA l n ↔ ∃ t k, t < n ∧ k ≤ t ∧ y = stB l t k := by
  induction n with
  | zero =>
    constructor
    · intro h; cases h
    · rintro ⟨t, k, h, _⟩; omega
  | succ n ih =>
    rw [stA, List.mem_append, ih]
    constructor
    · rintro (⟨t, k, h1, h2, h3⟩ | h)
      · exact ⟨t, k, by omega, h2, h3⟩
      · obtain ⟨k, hk, rfl⟩ := stI_mem h
        exact ⟨n, k, by omega, by omega, rfl⟩
    · rintro ⟨t, k, h1, h2, rfl⟩
      by_cases e : t = n
      · subst e
        exact .inr (List.mem_map.2 ⟨k, by simp; omega, rfl⟩)
      · exact .inl ⟨t, k, by omega, h2, rfl⟩
theorem kp_st (b : Bu) (l : List Int) (n : Nat) : kpN b l n = true ↔ ∀ y ∈ stA l n, needS b.r y ≤ b.d := by
  rw [kp_iff]
  constructor
  · intro h y hy
    obtain ⟨t, k, h1, h2, rfl⟩ := stA_mem.1 hy
    rw [needS_stB]
    exact h t h1 k h2
  · intro h t ht k hk
    have := h _ (stA_mem.2 ⟨t, k, ht, hk, rfl⟩)
    rwa [needS_stB] at this
/-- The first breach: no stretch that ends ahead of it is too great. -/
theorem find_first {b : Bu} {l : List Int} {n : Nat} {y : St} (h : (stA l n).find? (brP b) = some y) : ∃ t k, t < n ∧ k ≤ t ∧ y = stB l t k ∧ b.d < sumB l t (k + 1) - b.r * (k : Int) ∧ kpN b l t = true := by
  induction n with
  | zero => simp [stA] at h
  | succ n ih =>
    rw [stA, List.find?_append] at h
    cases hq : (stA l n).find? (brP b) with
    | some z =>
      rw [hq] at h
      simp at h
      subst h
      obtain ⟨t, k, h1, h2⟩ := ih hq
      exact ⟨t, k, by omega, h2⟩
    | none =>
      rw [hq] at h
      simp at h
      have h1 := List.find?_some h
      have h2 := List.mem_of_find?_eq_some h
      obtain ⟨k, hk, rfl⟩ := stI_mem h2
      refine ⟨n, k, by omega, by omega, rfl, ?_, ?_⟩
      · simp only [brP, decide_eq_true_eq, needS_stB] at h1
        exact h1
      · rw [kp_st]
        intro y hy
        have := List.find?_eq_none.1 hq y hy
        simp only [brP, decide_eq_true_eq] at this
        omega
theorem find_none {b : Bu} {l : List Int} {n : Nat} : (stA l n).find? (brP b) = none ↔ kpN b l n = true := by
  rw [kp_st, List.find?_eq_none]
  constructor
  · intro h y hy
    have := h y hy
    simp only [brP, decide_eq_true_eq] at this
    omega
  · intro h y hy
    have := h y hy
    simp only [brP, decide_eq_true_eq]
    omega
theorem lvN_take (b : Bu) (l : List Int) (n t : Nat) (h : t ≤ n) : lvN b (l.take n) t = lvN b l t := by
  induction t with
  | zero => rfl
  | succ t ih =>
    have e : (l.take n).getD t 0 = l.getD t 0 := by simp [List.getD, show t < n by omega]
    simp only [lvN]
    rw [ih (by omega), e]
theorem kpN_take (b : Bu) (l : List Int) (n : Nat) : kpN b (l.take n) n = kpN b l n := by
  rw [Bool.eq_iff_iff, kpN_iff_lv, kpN_iff_lv]
  constructor <;> intro h t ht
  · have := h t ht
    rwa [lvN_take b l n t (by omega), show (l.take n).getD t 0 = l.getD t 0 by simp [List.getD, ht]] at this
  · have := h t ht
    rwa [lvN_take b l n t (by omega), show (l.take n).getD t 0 = l.getD t 0 by simp [List.getD, ht]]
/-- The sum of a stretch. -/
theorem sum_stretch (l : List Int) (t k : Nat) (ht : t < l.length) (hk : k ≤ t) : sumL ((l.drop (t - k)).take (k + 1)) = sumB l t (k + 1) := by
  have gen : ∀ m, m ≤ k + 1 → sumL ((l.drop (t + 1 - m)).take m) = sumB l t m := by
    intro m hm
    induction m with
    | zero => simp [sumL, sumB]
    | succ m ih =>
      have i := ih (by omega)
      have e : sumB l t (m + 1) = sumB l t m + l.getD (t - m) 0 := rfl
      rw [e, ← i]
      have e2 : l.drop (t + 1 - (m + 1)) = l.getD (t - m) 0 :: l.drop (t + 1 - m) := by
        have h1 : t + 1 - (m + 1) = t - m := by omega
        have h2 : t + 1 - m = (t - m) + 1 := by omega
        rw [h1, h2, List.drop_eq_getElem_cons (by omega)]
        simp [List.getD, show t - m < l.length by omega]
      rw [e2, List.take_succ_cons]
      have gs : ∀ (a : Int) (L : List Int), sumL (a :: L) = a + sumL L := by
        intro a L
        have gf : ∀ (L : List Int) (x y : Int), L.foldl (· + ·) (x + y) = x + L.foldl (· + ·) y := by
          intro L
          induction L with
          | nil => intro x y; rfl
          | cons z L ihL => intro x y; simp only [List.foldl_cons]; rw [Int.add_assoc, ihL]
        show (a :: L).foldl (· + ·) 0 = a + L.foldl (· + ·) 0
        simp only [List.foldl_cons]
        rw [Int.add_comm 0 a]
        exact gf L a 0
      rw [gs]
      omega
  have := gen (k + 1) (Nat.le_refl _)
  rwa [show t + 1 - (k + 1) = t - k by omega] at this
/-- The greatest of what a function gives is given. -/
theorem mxF_mem {α : Type} (f : α → Int) (m : Int) (L : List α) : (mxF f m L = m ∨ ∃ x ∈ L, f x = mxF f m L) ∧ m ≤ mxF f m L ∧ ∀ x ∈ L, f x ≤ mxF f m L := by
  induction L generalizing m with
  | nil => exact ⟨.inl rfl, Int.le_refl _, fun x hx => by cases hx⟩
  | cons y L ih =>
    obtain ⟨i1, i2, i3⟩ := ih (max m (f y))
    have e : mxF f m (y :: L) = mxF f (max m (f y)) L := rfl
    rw [e]
    refine ⟨?_, by omega, ?_⟩
    · rcases i1 with i1 | ⟨x, hx, i1⟩
      · by_cases h : f y ≤ m
        · left; rw [i1]; omega
        · right; exact ⟨y, List.mem_cons_self .., by rw [i1]; omega⟩
      · right; exact ⟨x, List.mem_cons_of_mem _ hx, i1⟩
    · intro x hx
      rcases List.mem_cons.1 hx with rfl | hx
      · omega
      · exact i3 x hx
/-- The least depth is kept, and no lesser one is. -/
theorem dep_keeps {r : Int} {l : List Int} : kpN ⟨r, depN r l⟩ l l.length = true ∧ (1 < depN r l → kpN ⟨r, depN r l - 1⟩ l l.length = false) := by
  obtain ⟨h1, h2, h3⟩ := mxF_mem (needS r) 1 (stA l l.length)
  refine ⟨(kp_st _ _ _).2 fun y hy => h3 y hy, fun h => ?_⟩
  rcases hq : kpN ⟨r, depN r l - 1⟩ l l.length with _ | _
  · rfl
  · have h4 := (kp_st _ _ _).1 hq
    rcases h1 with h1 | ⟨x, hx, h1⟩
    · unfold depN at h; omega
    · have := h4 x hx
      simp only at this
      unfold depN at this
      omega
/-- The least rate is kept, and no lesser one is. -/
theorem rate_keeps {d : Int} {l : List Int} {k m r : Nat} (h : rateN d l k m = some r) : kpN ⟨(r : Int), d⟩ l l.length = true ∧ ∀ q : Nat, k < q → q < r → kpN ⟨(q : Int), d⟩ l l.length = false := by
  induction m generalizing k with
  | zero => cases h
  | succ m ih =>
    rw [rateN] at h
    split at h
    · rename_i hk
      injection h with h
      subst h
      exact ⟨by exact_mod_cast hk, fun q h1 h2 => by omega⟩
    · rename_i hk
      obtain ⟨i1, i2⟩ := ih h
      refine ⟨i1, fun q h1 h2 => ?_⟩
      by_cases e : q = k + 1
      · subst e
        simpa using hk
      · exact i2 q (by omega) h2
end Go.Proofs.YtfncajdhdcpooaaDoor
