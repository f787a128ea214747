/-
  Mathematics of bounds that hold: traffic that keeps a bucket neither waits longer at a server, nor leaves more waiting, than the bounds, and keeps the bucket behind it. No dump is imported but for the small words on bounds.
-/
import Derived.Test.YtlanpfcjcafapaaMathSv
import Derived.Test.YtlanpfcjcafapaaCurB
namespace Go.Proofs.Ytlanpfcjcafapaa
open Go.RowKit
set_option maxRecDepth 100000
set_option linter.unusedVariables false

theorem mulmin_lt {r L : Int} {t : Nat} (h : (t : Int) < L) : r * min ((t + 1 : Nat) : Int) L = r * min (t : Int) L + r := by
  rw [Int.min_eq_left (by omega), Int.min_eq_left (by omega)]
  have e : ((t + 1 : Nat) : Int) = (t : Int) + 1 := by omega
  rw [e, Int.mul_add, Int.mul_one]
theorem mulmin_ge {r L : Int} {t : Nat} (h : L ≤ (t : Int)) : r * min ((t + 1 : Nat) : Int) L = r * min (t : Int) L := by
  rw [Int.min_eq_right (by omega), Int.min_eq_right (by omega)]
theorem mulmin_in {r L : Int} (hr : 0 ≤ r) (hL : 0 ≤ L) (t : Nat) : 0 ≤ r * min (t : Int) L ∧ r * min (t : Int) L ≤ r * L :=
  ⟨Int.mul_nonneg hr (by omega), Int.mul_le_mul_of_nonneg_left (Int.min_le_right _ _) hr⟩

/-- Traffic that keeps a bucket keeps it as well when noughts follow. -/
theorem kpN_all {b : Bu} {l : List Int} (hb : buOk b = true) (hl : trOk l = true) (hk : kpN b l l.length = true) (k : Nat) : kpN b l k = true := by
  induction k with
  | zero => simp [kpN]
  | succ k ih =>
    refine kpN_succ ih ?_
    rcases Nat.lt_or_ge k l.length with h | h
    · exact kpN_le hk h
    · have e : l.getD k 0 = 0 := by simp [List.getD, h]
      rw [e]
      exact (lvN_in hb hl k ih).1
theorem hold_lv {b : Bu} {l : List Int} (hb : buOk b = true) (hl : trOk l = true) (hk : kpN b l l.length = true) (t : Nat) : l.getD t 0 ≤ lvN b l t ∧ lvN b l t ≤ b.d :=
  ⟨kpN_le (kpN_all hb hl hk (t + 1)) (Nat.lt_succ_self t), (lvN_in hb hl t (kpN_all hb hl hk t)).2⟩

/-- What waits ahead of the tick t. -/
theorem hold_q {v : Sv} {b : Bu} {l : List Int} (hf : fitOk v b = true) (hb : buOk b = true) (hl : trOk l = true) (hk : kpN b l l.length = true) (t : Nat) :
    (svS v l t).2 ≤ b.d - lvN b l t + b.r * min (t : Int) v.l := by
  have hf' := fitOk_in hf
  induction t with
  | zero =>
    have e : min ((0 : Nat) : Int) v.l = 0 := by omega
    rw [e]
    simp [svS, lvN]
  | succ t ih =>
    have h1 := hold_lv hb hl hk t
    have h2 := trOk_at hl t
    have h3 := mulmin_in (show 0 ≤ b.r by omega) hf'.1.2.1 t
    rw [svS_succ]
    simp only [svG, lvN]
    by_cases ht : (t : Int) < v.l
    · rw [mulmin_lt ht, if_neg (by omega)]
      generalize b.r * min (t : Int) v.l = P at *
      omega
    · rw [mulmin_ge (by omega), if_pos (by omega)]
      generalize b.r * min (t : Int) v.l = P at *
      omega
theorem hold_M {v : Sv} {b : Bu} {l : List Int} (hf : fitOk v b = true) (hb : buOk b = true) (hl : trOk l = true) (hk : kpN b l l.length = true) (n : Nat) : svM v l n ≤ b.d + b.r * v.l := by
  have hf' := fitOk_in hf
  induction n with
  | zero =>
    have := Int.mul_nonneg (show 0 ≤ b.r by omega) hf'.1.2.1
    simp only [svM]
    omega
  | succ n ih =>
    have h1 := hold_q hf hb hl hk (n + 1)
    have h2 := hold_lv hb hl hk (n + 1)
    have h3 := trOk_at hl (n + 1)
    have h4 := mulmin_in (show 0 ≤ b.r by omega) hf'.1.2.1 (n + 1)
    simp only [svM]
    omega
/-- What is sent keeps the bucket behind the server. -/
theorem hold_behind {v : Sv} {b : Bu} {l : List Int} (hf : fitOk v b = true) (hb : buOk b = true) (hl : trOk l = true) (hk : kpN b l l.length = true) (n t : Nat) (ht : t ≤ n) :
    kpN ⟨b.r, b.d + b.r * v.l⟩ (svT v l n) t = true ∧ (b.d + b.r * v.l - lvN ⟨b.r, b.d + b.r * v.l⟩ (svT v l n) t) + (svS v l t).2 ≤ b.d - lvN b l t + b.r * v.l := by
  have hf' := fitOk_in hf
  induction t with
  | zero =>
    have := Int.mul_nonneg (show 0 ≤ b.r by omega) hf'.1.2.1
    exact ⟨by simp [kpN], by simp only [lvN, svS]; omega⟩
  | succ t ih =>
    obtain ⟨i1, i2⟩ := ih (by omega)
    have h1 := hold_lv hb hl hk t
    have h2 := trOk_at hl t
    have h3 := hold_q hf hb hl hk (t + 1)
    have h4 := (mulmin_in (show 0 ≤ b.r by omega) hf'.1.2.1 (t + 1)).2
    have h5 := (svS_in (x := v) (l := l) (by have := hf; simp only [fitOk, Bool.and_eq_true] at this; exact this.1) hl t).2.1
    have h6 : svG v l t ≤ (svS v l t).2 + l.getD t 0 := by
      unfold svG
      split <;> omega
    have e : (svT v l n).getD t 0 = svG v l t := svT_at v l n t (by omega)
    refine ⟨kpN_succ i1 (by rw [e]; omega), ?_⟩
    rw [svS_succ] at h3 ⊢
    simp only [lvN] at h3 ⊢
    rw [e]
    generalize svG v l t = g at *
    generalize b.r * v.l = P at *
    generalize b.r * min ((t + 1 : Nat) : Int) v.l = P2 at *
    generalize lvN ⟨b.r, b.d + P⟩ (svT v l n) t = A at *
    omega

/-- What has come ahead of the tick t. -/
theorem come_succ (l : List Int) (t : Nat) : sumL (l.take (t + 1)) = sumL (l.take t) + l.getD t 0 := by
  rcases Nat.lt_or_ge t l.length with h | h
  · exact sumL_take l t h
  · have e : l.getD t 0 = 0 := by simp [List.getD, h]
    rw [List.take_of_length_le h, List.take_of_length_le (by omega), e]
    omega
theorem come_le {l : List Int} (hl : trOk l = true) {s t : Nat} (h : s ≤ t) : sumL (l.take s) ≤ sumL (l.take t) := by
  induction t with
  | zero => obtain rfl : s = 0 := by omega
            exact Int.le_refl _
  | succ t ih =>
    by_cases e : s = t + 1
    · rw [e]; exact Int.le_refl _
    · have h1 := ih (by omega)
      have h2 := trOk_at hl t
      rw [come_succ]
      omega
theorem gone_succ (v : Sv) (l : List Int) (t : Nat) : sumL (svT v l (t + 1)) = sumL (svT v l t) + svG v l t := by
  rw [svT_succ]
  have h := sumL_take (svT v l t ++ [svG v l t]) t (by simp [svT_length])
  rw [List.take_of_length_le (by simp [svT_length])] at h
  rw [h]
  have e1 : List.take t (svT v l t ++ [svG v l t]) = svT v l t := by
    rw [List.take_append_of_le_length (by simp [svT_length]), List.take_of_length_le (by simp [svT_length])]
  have e2 : (svT v l t ++ [svG v l t]).getD t 0 = svG v l t := by simp [List.getD, svT_length]
  rw [e1, e2]
/-- What has gone and what waits is what has come. -/
theorem sent_is (v : Sv) (l : List Int) (t : Nat) : sumL (svT v l t) + (svS v l t).2 = sumL (l.take t) := by
  induction t with
  | zero => simp [svT, svS, sumL]
  | succ t ih =>
    rw [gone_succ, come_succ, svS_succ]
    simp only
    omega
theorem svE_end {x : Sv} {l : List Int} {t f n : Nat} (h : svE x l t f = some n) : svGo x l n = false := by
  induction f generalizing t with
  | zero =>
    rw [svE] at h
    split at h
    · cases h
    · injection h with h
      subst h
      simpa using ‹¬ svGo x l t = true›
  | succ f ih =>
    rw [svE] at h
    split at h
    · exact ih h
    · injection h with h
      subst h
      simpa using ‹¬ svGo x l t = true›
theorem sent_all {v : Sv} {l : List Int} (hv : svOk v = true) (hl : trOk l = true) {n : Nat} (h : svRg v l = some n) : l.length ≤ n ∧ sumL (svT v l n) = sumL l := by
  have h1 := svE_end h
  simp only [svGo, Bool.or_eq_false_iff, decide_eq_false_iff_not] at h1
  have h2 := (svS_in hv hl n).2.1
  have h3 := sent_is v l n
  rw [List.take_of_length_le (by omega)] at h3
  exact ⟨by omega, by omega⟩
theorem cutF_to {P : Nat → Int} {c : Int} {i f k : Nat} (hi : i ≤ k) (h : c ≤ P k) : cutF P c i f ≤ k := by
  induction f generalizing i with
  | zero => exact hi
  | succ f ih =>
    rw [cutF]
    split
    · exact hi
    · rename_i hn
      exact ih (by
        rcases Nat.lt_or_ge i k with h2 | h2
        · omega
        · obtain rfl : i = k := by omega
          exact absurd h hn)
/-- What has come up to the tick s and has not gone behind the tick j. -/
theorem hold_p {v : Sv} {b : Bu} {l : List Int} (hf : fitOk v b = true) (hb : buOk b = true) (hl : trOk l = true) (hk : kpN b l l.length = true) {L : Nat} (hL : v.l = (L : Int)) (s j : Nat) (hj : s ≤ j) :
    sumL (l.take (s + 1)) - sumL (svT v l (j + 1)) ≤ max 0 (b.d + b.r * min ((s + 1 : Nat) : Int) v.l - v.r * ((j + 1 - max (s + 1) L : Nat) : Int)) := by
  have hf' := fitOk_in hf
  have hv : svOk v = true := by have := hf; simp only [fitOk, Bool.and_eq_true] at this; exact this.1
  induction j with
  | zero =>
    obtain rfl : s = 0 := by omega
    have h1 := sent_is v l (0 + 1)
    have h2 := hold_q hf hb hl hk (0 + 1)
    have h3 := hold_lv hb hl hk (0 + 1)
    have h4 := trOk_at hl (0 + 1)
    have e : (0 + 1 - max (0 + 1) L : Nat) = 0 := by omega
    rw [e]
    generalize b.r * min ((0 + 1 : Nat) : Int) v.l = P at *
    omega
  | succ j ih =>
    by_cases hs : s = j + 1
    · subst hs
      have h1 := sent_is v l (j + 1 + 1)
      have h2 := hold_q hf hb hl hk (j + 1 + 1)
      have h3 := hold_lv hb hl hk (j + 1 + 1)
      have h4 := trOk_at hl (j + 1 + 1)
      have e : (j + 1 + 1 - max (j + 1 + 1) L : Nat) = 0 := by omega
      rw [e]
      generalize b.r * min ((j + 1 + 1 : Nat) : Int) v.l = P at *
      omega
    · have i := ih (by omega)
      have h1 := sent_is v l (j + 1)
      have h2 := come_le hl (show s + 1 ≤ j + 1 by omega)
      have h3 := trOk_at hl (j + 1)
      have h5 := (svS_in hv hl (j + 1)).2.1
      rw [gone_succ v l (j + 1)]
      by_cases ht : j + 1 < L
      · have e1 : (j + 1 + 1 - max (s + 1) L : Nat) = 0 := by omega
        have e2 : (j + 1 - max (s + 1) L : Nat) = 0 := by omega
        have e3 : svG v l (j + 1) = 0 := by
          unfold svG
          rw [if_neg (by omega)]
        rw [e1, e3]
        rw [e2] at i
        omega
      · have e1 : (j + 1 + 1 - max (s + 1) L : Nat) = (j + 1 - max (s + 1) L : Nat) + 1 := by omega
        have e3 : svG v l (j + 1) = min ((svS v l (j + 1)).2 + l.getD (j + 1) 0) v.r := by
          unfold svG
          rw [if_pos (by omega)]
        rw [e1, e3]
        have e4 : v.r * (((j + 1 - max (s + 1) L : Nat) + 1 : Nat) : Int) = v.r * ((j + 1 - max (s + 1) L : Nat) : Int) + v.r := by
          rw [Int.natCast_add, Int.mul_add]
          simp
        rw [e4]
        generalize v.r * ((j + 1 - max (s + 1) L : Nat) : Int) = K at *
        generalize b.r * min ((s + 1 : Nat) : Int) v.l = P at *
        omega
/-- All of it has gone within the bound. -/
theorem hold_cut {v : Sv} {b : Bu} {l : List Int} (hf : fitOk v b = true) (hb : buOk b = true) (hl : trOk l = true) (hk : kpN b l l.length = true) {n : Nat} (hn : svRg v l = some n) (s : Nat) :
    ((cutO (svT v l n) (sumL (l.take (s + 1))) : Nat) : Int) - s ≤ v.l + (b.d + v.r - 1).tdiv v.r := by
  have hf' := fitOk_in hf
  have hv : svOk v = true := by have := hf; simp only [fitOk, Bool.and_eq_true] at this; exact this.1
  obtain ⟨L, hL⟩ := Int.eq_ofNat_of_zero_le hf'.1.2.1
  have hc0 : (b.d + v.r - 1).tdiv v.r = (b.d + v.r - 1) / v.r := Int.tdiv_eq_ediv_of_nonneg (by omega)
  have hc1 : 0 ≤ (b.d + v.r - 1) / v.r := Int.ediv_nonneg (by omega) (by omega)
  obtain ⟨c, hc⟩ := Int.eq_ofNat_of_zero_le hc1
  have hc2 : b.d + v.r - 1 < ((b.d + v.r - 1) / v.r + 1) * v.r := Int.lt_ediv_add_one_mul_self _ (by omega)
  rw [hc] at hc2
  have hc3 : ((c : Int) + 1) * v.r = v.r * c + v.r := by rw [Int.add_mul, Int.mul_comm]; simp
  have hle := cutO_le (svT v l n) (sumL (l.take (s + 1)))
  rw [svT_length] at hle
  rw [hc0, hc, hL]
  rcases Nat.lt_or_ge (s + L + c) n with hlt | hge
  · have h1 := hold_p hf hb hl hk hL s (s + L + c) (by omega)
    have e1 : (s + L + c + 1 - max (s + 1) L : Nat) = c + min (s + 1) L := by omega
    have e2 : v.r * ((c + min (s + 1) L : Nat) : Int) = v.r * c + v.r * (min (s + 1) L : Nat) := by rw [Int.natCast_add, Int.mul_add]
    have e3 : ((min (s + 1) L : Nat) : Int) = min ((s + 1 : Nat) : Int) v.l := by omega
    rw [e1, e2, e3] at h1
    have h2 : b.r * min ((s + 1 : Nat) : Int) v.l ≤ v.r * min ((s + 1 : Nat) : Int) v.l := Int.mul_le_mul_of_nonneg_right hf'.2.2 (by omega)
    have h3 : cutO (svT v l n) (sumL (l.take (s + 1))) ≤ s + L + c := by
      refine cutF_to (Nat.zero_le _) ?_
      have e4 : (svT v l n).take (s + L + c + 1) = svT v l (s + L + c + 1) := by
        unfold svT
        rw [← List.map_take, List.take_range, Nat.min_eq_left (by omega)]
      unfold goneP
      rw [e4]
      generalize v.r * min ((s + 1 : Nat) : Int) v.l = P1 at *
      generalize b.r * min ((s + 1 : Nat) : Int) v.l = P2 at *
      generalize v.r * (c : Int) = P3 at *
      omega
    omega
  · omega
theorem hold_D {v : Sv} {b : Bu} {l : List Int} (hf : fitOk v b = true) (hb : buOk b = true) (hl : trOk l = true) (hk : kpN b l l.length = true) {n : Nat} (hn : svRg v l = some n) (s : Nat) :
    dlN l (svT v l n) s ≤ v.l + (b.d + v.r - 1).tdiv v.r := by
  have hf' := fitOk_in hf
  induction s with
  | zero =>
    have := Int.ediv_nonneg (show 0 ≤ b.d + v.r - 1 by omega) (show 0 ≤ v.r by omega)
    rw [← Int.tdiv_eq_ediv_of_nonneg (by omega)] at this
    simp only [dlN]
    omega
  | succ s ih =>
    have h1 := hold_cut hf hb hl hk hn s
    simp only [dlN]
    split <;> omega

theorem served_most {v : Sv} {l : List Int} (hv : svOk v = true) (hl : trOk l = true) (n k : Nat) : mstN (svT v l n) k ≤ v.r := by
  have h1 := svOk_in hv
  refine mstN_to (by omega) (fun j => ?_) k
  rcases Nat.lt_or_ge j n with h | h
  · rw [svT_at v l n j h]
    unfold svG
    split <;> omega
  · have e : (svT v l n).getD j 0 = 0 := by simp [List.getD, svT_length, h]
    rw [e]; omega

/-- The worst traffic keeps its bucket. -/
theorem worst_lv {b : Bu} (hb : buOk b = true) (n k : Nat) (hk : k ≤ n) : kpN b (wst b (n + 1)) (k + 1) = true ∧ lvN b (wst b (n + 1)) (k + 1) = min b.r b.d := by
  have h1 := buOk_in hb
  induction k with
  | zero =>
    refine ⟨by simp [kpN, lvN, wst], ?_⟩
    simp [lvN, wst]
  | succ k ih =>
    obtain ⟨i1, i2⟩ := ih (by omega)
    have e : (wst b (n + 1)).getD (k + 1) 0 = min b.r b.d := by
      simp [wst, List.getD, show k < n by omega]
    refine ⟨kpN_succ i1 (by rw [e, i2]; exact Int.le_refl _), ?_⟩
    rw [lvN, e, i2]
    omega
theorem worst_keeps {b : Bu} (hb : buOk b = true) (n : Nat) : kpN b (wst b n) (wst b n).length = true := by
  rw [wst_length]
  cases n with
  | zero => simp [kpN]
  | succ n => exact (worst_lv hb n n (Nat.le_refl _)).1
theorem worst_tr {b : Bu} (hb : buOk b = true) (n : Nat) (hn : n ≤ 40) : trOk (wst b n) = true := by
  have h1 := buOk_in hb
  rw [trOk_short (by rw [wst_length]; exact hn)]
  cases n with
  | zero => simp [wst, okAll]
  | succ n =>
    simp only [wst, okAll, List.all_cons, List.all_replicate, Bool.and_eq_true, decide_eq_true_eq]
    refine ⟨?_, ?_⟩
    · omega
    · split
      · rfl
      · simp only [decide_eq_true_eq]; omega
theorem row_turned (a b : Sv) : rowSays a b = rowSays b a := by
  have e : joinV a b = joinV b a := by
    unfold joinV
    rw [Int.min_comm, Int.add_comm]
  unfold rowSays
  rw [e]
  cases svOk a <;> cases svOk b <;> simp
end Go.Proofs.Ytlanpfcjcafapaa
