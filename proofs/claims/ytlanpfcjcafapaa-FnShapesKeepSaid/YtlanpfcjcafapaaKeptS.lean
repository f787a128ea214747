/-
  What FnBucketsKept asks of the answers, put together.
-/
import Derived.Test.YtlanpfcjcafapaaMathKp
namespace Go.Proofs.Ytlanpfcjcafapaa
open Go.RowKit
set_option maxRecDepth 100000
set_option linter.unusedVariables false

theorem kp_snd (b : Bu) (l : List Int) : (kpSays b l).2 = (buOk b && trOk l) := by
  cases h : askOk b l <;> simp [kpSays, h] <;> simpa [askOk] using h
theorem lv_snd (b : Bu) (l : List Int) : (lvSays b l).2 = ((kpSays b l).2 && (kpSays b l).1) := by
  cases h : askOk b l
  · simp [lvSays, kpSays, h]
  · simp only [lvSays, kpSays, h, if_true, lvRg_snd, Bool.true_and]
theorem br_snd (b : Bu) (l : List Int) : (brSays b l).2 = ((kpSays b l).2 && !(kpSays b l).1) := by
  cases h : askOk b l
  · simp [brSays, kpSays, h]
  · simp only [brSays, kpSays, h, if_true, Bool.true_and]
    cases hf : (stA l l.length).find? (brP b) with
    | none => rw [find_none.1 hf]; rfl
    | some y =>
      have : kpN b l l.length = false := by
        cases hk : kpN b l l.length
        · rfl
        · rw [find_none.2 hk] at hf; cases hf
      rw [this]; rfl
/-- The levels of traffic that keeps its bucket. -/
theorem lv_true {b : Bu} {l : List Int} (h : (lvSays b l).2 = true) : buOk b = true ∧ trOk l = true ∧ (lvSays b l).1 = lvT b l l.length ∧ ∀ t, t < l.length → l.getD t 0 ≤ lvN b l t ∧ lvN b l t ≤ b.d ∧ 0 ≤ lvN b l t := by
  cases ha : askOk b l
  · simp [lvSays, ha] at h
  · have h1 := askOk_in ha
    simp only [lvSays, ha, if_true] at h ⊢
    rw [lvRg_snd] at h
    refine ⟨h1.1, h1.2, by rw [lvRg_yes h], fun t ht => ?_⟩
    have h2 := (kpN_iff_lv b l l.length).1 h t ht
    have h3 := lvN_le b l t
    have h4 := trOk_at h1.2 t
    omega
theorem lvT_at (b : Bu) (l : List Int) (n t : Nat) (ht : t < n) : (lvT b l n).getD t 0 = lvN b l t := by simp [lvT, List.getD, ht]
/-- The first breach. -/
theorem br_true {b : Bu} {l : List Int} (h : (brSays b l).2 = true) : buOk b = true ∧ trOk l = true ∧ ∃ t k : Nat, t < l.length ∧ k ≤ t ∧ (brSays b l).1 = [(t : Int) - k, (t : Int)] ∧ b.d < sumL ((l.drop (t - k)).take (k + 1)) - b.r * (k : Int) ∧ kpSays b (l.take t) = (true, true) := by
  cases ha : askOk b l
  · simp [brSays, ha] at h
  · have h1 := askOk_in ha
    simp only [brSays, ha, if_true] at h ⊢
    cases hf : (stA l l.length).find? (brP b) with
    | none => rw [hf] at h; cases h
    | some y =>
      obtain ⟨t, k, q1, q2, rfl, q4, q5⟩ := find_first hf
      refine ⟨h1.1, h1.2, t, k, q1, q2, rfl, by rw [sum_stretch l t k q1 q2]; exact q4, ?_⟩
      have h3 : trOk (l.take t) = true := by
        rw [trOk_short (by have := trOk_len h1.2; simp; omega)]
        simp only [okAll, List.all_eq_true, decide_eq_true_eq]
        intro x hx
        exact trOk_mem h1.2 x (List.mem_of_mem_take hx)
      have h4 : (l.take t).length = t := by simp; omega
      simp only [kpSays, askOk, h1.1, h3, Bool.and_self, if_true, h4, kpN_take, q5]
theorem dep_true {r : Int} {l : List Int} (h : (depSays r l).2 = true) : kpSays ⟨r, (depSays r l).1⟩ l = (true, true) ∧ (kpSays ⟨r, (depSays r l).1 - 1⟩ l).1 = false ∧ (1 ≤ (depSays r l).1 ∧ (depSays r l).1 ≤ 1000) := by
  cases ha : (wi r 1 100 && trOk l)
  · simp [depSays, ha] at h
  · have ha' := ha
    simp only [Bool.and_eq_true] at ha'
    have hr0 : 1 ≤ r ∧ r ≤ 100 := by simpa [wi] using ha'.1
    simp only [depSays, ha, if_true] at h ⊢
    by_cases hd : depN r l ≤ 1000
    · rw [if_pos hd]
      obtain ⟨k1, k2⟩ := dep_keeps (r := r) (l := l)
      have h2 := (mxF_mem (needS r) 1 (stA l l.length)).2.1
      have h3 : 1 ≤ depN r l := h2
      have h4 : buOk ⟨r, depN r l⟩ = true := by simp [buOk, wi]; omega
      refine ⟨by simp only [kpSays, askOk, h4, ha'.2, Bool.and_self, if_true, k1], ?_, h3, hd⟩
      by_cases h5 : 1 < depN r l
      · have h6 : buOk ⟨r, depN r l - 1⟩ = true := by simp [buOk, wi]; omega
        simp only [kpSays, askOk, h6, ha'.2, Bool.and_self, if_true, k2 h5]
      · have h6 : buOk ⟨r, depN r l - 1⟩ = false := by
          have : depN r l = 1 := by omega
          simp [buOk, wi, this]
        simp [kpSays, askOk, h6]
    · rw [if_neg hd] at h; cases h
theorem rate_true {d : Int} {l : List Int} (h : (rateSays d l).2 = true) : kpSays ⟨(rateSays d l).1, d⟩ l = (true, true) ∧ (kpSays ⟨(rateSays d l).1 - 1, d⟩ l).1 = false ∧ (1 ≤ (rateSays d l).1 ∧ (rateSays d l).1 ≤ 100) := by
  cases ha : (wi d 1 1000 && trOk l)
  · simp [rateSays, ha] at h
  · have ha' := ha
    simp only [Bool.and_eq_true] at ha'
    have hr0 : 1 ≤ d ∧ d ≤ 1000 := by simpa [wi] using ha'.1
    simp only [rateSays, ha, if_true] at h ⊢
    cases hr : rateN d l 0 100 with
    | none => rw [hr] at h; cases h
    | some r =>
      obtain ⟨k1, k2⟩ := rate_keeps hr
      have h2 := rateN_le hr
      show kpSays ⟨(r : Int), d⟩ l = (true, true) ∧ (kpSays ⟨(r : Int) - 1, d⟩ l).1 = false ∧ (1 ≤ (r : Int) ∧ (r : Int) ≤ 100)
      have h4 : buOk ⟨(r : Int), d⟩ = true := by simp [buOk, wi]; omega
      refine ⟨by simp only [kpSays, askOk, h4, ha'.2, Bool.and_self, if_true, k1], ?_, by omega, by omega⟩
      by_cases h5 : 1 < r
      · have h6 : buOk ⟨(r : Int) - 1, d⟩ = true := by simp [buOk, wi]; omega
        have h7 := k2 (r - 1) (by omega) (by omega)
        rw [show ((r - 1 : Nat) : Int) = (r : Int) - 1 by omega] at h7
        simp only [kpSays, askOk, h6, ha'.2, Bool.and_self, if_true, h7]
      · have h6 : buOk ⟨(r : Int) - 1, d⟩ = false := by
          have : r = 1 := by omega
          simp [buOk, wi, this]
        simp [kpSays, askOk, h6]
theorem both_true {x y : Bu} {l : List Int} (h : (bothSays x y l).2 = true) : (kpSays x l).2 = true ∧ (kpSays y l).2 = true ∧ (bothSays x y l).1 = ((kpSays x l).1 && (kpSays y l).1) := by
  cases ha : (askOk x l && buOk y)
  · simp [bothSays, ha] at h
  · have ha' := ha
    simp only [Bool.and_eq_true] at ha'
    have h1 : askOk y l = true := by simp [askOk, ha'.2, (askOk_in ha'.1).2]
    simp only [bothSays, kpSays, ha'.1, ha'.2, h1, Bool.and_self, if_true]
    exact ⟨trivial, trivial, trivial⟩
end Go.Proofs.Ytlanpfcjcafapaa
