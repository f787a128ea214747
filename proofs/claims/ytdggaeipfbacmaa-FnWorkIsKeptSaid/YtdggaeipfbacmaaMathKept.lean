/-
  The work that is kept: rows of stretches, their total, starts within them, and the work that is left.
-/
import Derived.Test.YtdggaeipfbacmaaMathRun
import Derived.Test.YtdggaeipfbacmaaMathWork
namespace Go.Proofs.Ytdggaeipfbacmaa
open Go.RowKit
set_option maxRecDepth 100000
set_option linter.unusedVariables false

theorem bp_canon {js : List Jb} (hA : areJb js = true) : Canon (bpL js js.length) ∧ ∀ t, Cov (bpL js js.length) t ↔ heldB js (fifo js) t js.length = true := by
  have h := strL_cov (Sch.fifo hA) (fifo_len js) (order_idx _) (srt_idx hA)
  rw [(bp_is hA js.length (Nat.le_refl _)).1] at h
  exact h
/-- What rows have in all. -/
def totL (L : List (List Int)) : Nat → Int
  | 0 => 0
  | q + 1 => totL L q + ((L.getD q []).getD 1 0 - (L.getD q []).getD 0 0)
theorem totL_oL {L : List (List Int)} (hL : Canon L) (q : Nat) (hq : q ≤ L.length) (h : ∀ j, j < L.length → (L.getD j []).getD 1 0 ≤ 5000) : totL L q = oL 5000 L q := by
  induction q with
  | zero => rfl
  | succ q ih =>
    have h1 := h q (by omega)
    have h2 := (hL.1 (L.getD q []) (by rw [List.getD_eq_getElem?_getD, List.getElem?_eq_getElem (by omega : q < L.length)]; exact List.getElem_mem _)).2
    rw [totL, oL, ih (by omega), ovl, mxT]
    split <;> split <;> omega
theorem aT_late {js : List Jb} (hA : areJb js = true) (m : Nat) (hm : m ≤ js.length) : aT js 5000 m = (js.take m).foldl (fun n x => n + x.l) 0 := by
  induction m with
  | zero => rfl
  | succ m ih =>
    have h1 := tick_at' hA (k := m) (by omega)
    rw [aT, ih (by omega), if_pos (by omega), List.take_succ_eq_append_getElem (by omega), List.foldl_append, getElem!_pos js m (by omega)]
    rfl
theorem cT_late {js : List Jb} (hA : areJb js = true) (m : Nat) (hm : m ≤ js.length) : cT js 5000 m = m := by
  induction m with
  | zero => rfl
  | succ m ih =>
    have h1 := tick_at' hA (k := m) (by omega)
    rw [cT, ih (by omega), if_pos (by omega)]
/-- The stretches have all the work, no more. -/
theorem tot_is {js : List Jb} (hA : areJb js = true) : totL (bpL js js.length) (bpL js js.length).length = js.foldl (fun n x => n + x.l) 0 := by
  have h1 := work_is hA (tick := 5000) (by omega) js.length (Nat.le_refl _)
  have h2 := aT_late hA js.length (Nat.le_refl _)
  have h3 := fE_bd hA js.length (Nat.le_refl _)
  have h4 := (areJb_in hA).1
  rw [cT_late hA _ (Nat.le_refl _), mx0, if_neg (by omega)] at h1
  rw [List.take_length] at h2
  rw [totL_oL (bp_canon hA).1 _ (Nat.le_refl _) (fun j hj => by have := (bp_rows hA js.length (Nat.le_refl _)).1 j hj; omega)]
  omega
/-- Where a line is busy from a job's tick on to some tick, one stretch holds both. -/
theorem bp_within {js : List Jb} (hA : areJb js = true) {a b : Int} (hab : a < b) (h : ∀ t, a ≤ t → t < b → heldB js (fifo js) t js.length = true) : ∃ r ∈ bpL js js.length, r.getD 0 0 ≤ a ∧ b ≤ r.getD 1 0 :=
  (bp_canon hA).1.within hab fun t h1 h2 => ((bp_canon hA).2 t).2 (h t h1 h2)
/-- From its tick on to its end a job's line is busy, in each order. -/
theorem starts_held {js : List Jb} (hA : areJb js = true) (rk : Int → Jb → Int) (i : Nat) (hi : i < js.length) (t : Int) (h1 : js[i]!.t ≤ t) (h2 : t < (startsOf rk js).getD i 0 + js[i]!.l) : heldB js (fifo js) t js.length = true := by
  obtain ⟨hs, hb⟩ := startsOf_busy hA rk
  rw [← (busy_iff hA hs).1 hb t]
  rcases Int.lt_or_le t ((startsOf rk js).getD i 0) with h3 | h3
  · exact hb i hi t h1 h3
  · exact heldB_t.2 ⟨i, hi, h3, h2⟩
/-- The work that is left, in the first one first. -/
theorem left_is {js : List Jb} (hA : areJb js = true) (tick : Int) (m : Nat) (hm : m ≤ js.length) : aT js tick m - dW js (fifo js) tick m = mx0 (fE js (cT js tick m) - tick) ∨ (m = 0 ∧ tick < 0) ∨ tick < 0 := by
  induction m with
  | zero =>
    rcases Int.lt_or_le tick 0 with h | h
    · exact .inr (.inr h)
    · refine .inl ?_
      simp only [aT, dW, cT, fE, mx0]
      split <;> omega
  | succ m ih =>
    rcases ih (by omega) with ih | ih | ih
    · refine .inl ?_
      have hl := tick_at' hA (k := m) (by omega)
      rw [aT, dW, cT, fifo_at js m (by omega)]
      have hS := fS_ge js m
      rcases Int.lt_or_le tick js[m]!.t with h | h
      · rw [if_neg (by omega), if_neg (by omega), clI, if_pos (by omega)]
        rw [show cT js tick m + 0 = cT js tick m from rfl]
        omega
      · have hc := cT_pre hA tick m (by omega) h
        rw [hc] at ih
        rw [if_pos h, if_pos h, hc, fE_succ]
        have hS2 : fS js m = if fE js m < js[m]!.t then js[m]!.t else fE js m := rfl
        generalize fS js m = s at hS hS2 ⊢
        generalize fE js m = e at ih hS hS2
        unfold mx0 clI at *
        split at hS2 <;> split at ih <;> split <;> split <;> (try split) <;> omega
    · exact .inr (.inr (by omega))
    · exact .inr (.inr ih)
/-- What the law adds up: what is left of the jobs that have come. -/
def lawL (js : List Jb) (tick : Int) : Nat → Int
  | 0 => 0
  | m + 1 => lawL js tick m + if tick < js[m]!.t then 0 else js[m]!.l - clI (tick - (fifo js).getD m 0) js[m]!.l
theorem lawL_is {js : List Jb} (hA : areJb js = true) (tick : Int) (m : Nat) (hm : m ≤ js.length) : lawL js tick m = aT js tick m - dW js (fifo js) tick m := by
  induction m with
  | zero => rfl
  | succ m ih =>
    rw [lawL, aT, dW, ih (by omega), fifo_at js m (by omega)]
    have hS := fS_ge js m
    rcases Int.lt_or_le tick js[m]!.t with h | h
    · rw [if_pos h, if_neg (by omega), clI, if_pos (by omega)]
      omega
    · rw [if_neg (by omega), if_pos h]
      omega
end Go.Proofs.Ytdggaeipfbacmaa
