/-
  Busy schedules: the line is held at the same ticks as by the first one first, and so are the stretches.
-/
import Derived.Test.YteoggoopfjkdkaaMathWork
namespace Go.Proofs.Yteoggoopfjkdkaa
open Go.RowKit
set_option maxRecDepth 100000
set_option linter.unusedVariables false

def heldB (js : List Jb) (ss : List Int) (t : Int) : Nat → Bool
  | 0 => false
  | m + 1 => heldB js ss t m || (decide (ss.getD m 0 ≤ t) && decide (t < ss.getD m 0 + js[m]!.l))
theorem heldB_t {js : List Jb} {ss : List Int} {t : Int} {m : Nat} : heldB js ss t m = true ↔ ∃ i, i < m ∧ ss.getD i 0 ≤ t ∧ t < ss.getD i 0 + js[i]!.l := by
  induction m with
  | zero => simp [heldB]
  | succ m ih =>
    rw [heldB, Bool.or_eq_true, ih, Bool.and_eq_true, decide_eq_true_eq, decide_eq_true_eq]
    constructor
    · rintro (⟨i, h1, h2⟩ | h)
      · exact ⟨i, by omega, h2⟩
      · exact ⟨m, by omega, h⟩
    · rintro ⟨i, h1, h2⟩
      by_cases e : i = m
      · subst e; exact .inr h2
      · exact .inl ⟨i, by omega, h2⟩
def busyP (js : List Jb) (ss : List Int) : Prop := ∀ i, i < js.length → ∀ t : Int, js[i]!.t ≤ t → t < ss.getD i 0 → heldB js ss t js.length = true
def clI (x l : Int) : Int := if x ≤ 0 then 0 else if x < l then x else l
/-- The work that is done before a tick. -/
def dW (js : List Jb) (ss : List Int) (t : Int) : Nat → Int
  | 0 => 0
  | m + 1 => dW js ss t m + clI (t - ss.getD m 0) js[m]!.l
/-- What is known of a schedule. -/
structure Sch (js : List Jb) (ss : List Int) : Prop where
  pos : ∀ i, i < js.length → 1 ≤ js[i]!.l
  zero : ∀ i, i < js.length → 0 ≤ ss.getD i 0
  tick : ∀ i, i < js.length → js[i]!.t ≤ ss.getD i 0
  apart : ∀ i k, i < js.length → k < js.length → i ≠ k → ss.getD i 0 + js[i]!.l ≤ ss.getD k 0 ∨ ss.getD k 0 + js[k]!.l ≤ ss.getD i 0
theorem Sch.of {js : List Jb} {ss : List Int} (hg : givenB js ss = true) (hb : schedB js ss = true) : Sch js ss := by
  obtain ⟨h1, h2, h3, h4⟩ := givenB_in hg
  have hs := schedB_t.1 hb
  refine ⟨fun i hi => (h4 i (by omega)).2.2.2.2.1, fun i hi => (h3 i (by omega)).1, fun i hi => (hs i (by omega)).1, fun i k hi hk hne => ?_⟩
  rcases Nat.lt_or_gt_of_ne hne with h9 | h9
  · have := (hs k (by omega)).2 i h9
    omega
  · have := (hs i (by omega)).2 k h9
    omega
theorem Sch.fifo {js : List Jb} (hA : areJb js = true) : Sch js (fifo js) := by
  refine ⟨fun i hi => (tick_at' hA hi).2.2.2.2.1, fun i hi => by rw [fifo_at js i hi]; exact (fS_bd hA i hi).1, fun i hi => by rw [fifo_at js i hi]; exact (fS_ge js i).1, fun i k hi hk hne => ?_⟩
  rw [fifo_at js i hi, fifo_at js k hk]
  rcases Nat.lt_or_gt_of_ne hne with h9 | h9
  · exact .inl (fS_lt hA h9 hk)
  · exact .inr (fS_lt hA h9 hi)
theorem dW_step {js : List Jb} {ss : List Int} (h : Sch js ss) (t : Int) (m : Nat) (hm : m ≤ js.length) : dW js ss (t + 1) m = dW js ss t m + if heldB js ss t m = true then 1 else 0 := by
  induction m with
  | zero => simp [dW, heldB]
  | succ m ih =>
    have h1 := ih (by omega)
    have hp := h.pos m (by omega)
    have hc : clI (t + 1 - ss.getD m 0) js[m]!.l = clI (t - ss.getD m 0) js[m]!.l + if ss.getD m 0 ≤ t ∧ t < ss.getD m 0 + js[m]!.l then 1 else 0 := by
      unfold clI
      repeat' split
      all_goals omega
    rw [dW, dW, h1, hc]
    by_cases hx : ss.getD m 0 ≤ t ∧ t < ss.getD m 0 + js[m]!.l
    · have hno : ¬ heldB js ss t m = true := fun h9 => by
        obtain ⟨i, i1, i2, i3⟩ := heldB_t.1 h9
        rcases h.apart i m (by omega) (by omega) (by omega) with h8 | h8 <;> omega
      have hy : heldB js ss t (m + 1) = true := heldB_t.2 ⟨m, by omega, hx⟩
      rw [if_pos hx, if_neg hno, if_pos hy]
      omega
    · rw [if_neg hx]
      have hy : heldB js ss t (m + 1) = heldB js ss t m := by
        rw [heldB]
        have : (decide (ss.getD m 0 ≤ t) && decide (t < ss.getD m 0 + js[m]!.l)) = false := by
          rw [Bool.and_eq_false_iff]
          by_cases h8 : ss.getD m 0 ≤ t
          · right; exact decide_eq_false (fun h7 => hx ⟨h8, h7⟩)
          · left; exact decide_eq_false h8
        rw [this, Bool.or_false]
      rw [hy]
      omega
theorem dW_zero {js : List Jb} {ss : List Int} (h : Sch js ss) (m : Nat) (hm : m ≤ js.length) : dW js ss 0 m = 0 := by
  induction m with
  | zero => rfl
  | succ m ih =>
    have := h.zero m (by omega)
    rw [dW, ih (by omega), clI, if_pos (by omega)]
    rfl
theorem dW_each {js : List Jb} {ss : List Int} (h : Sch js ss) (t : Int) (i : Nat) (hi : i < js.length) : clI (t - ss.getD i 0) js[i]!.l ≤ (if js[i]!.t ≤ t then js[i]!.l else 0) := by
  have h1 := h.pos i hi
  have h2 := h.tick i hi
  unfold clI
  repeat' split
  all_goals omega
theorem dW_le {js : List Jb} {ss : List Int} (h : Sch js ss) (t : Int) (m : Nat) (hm : m ≤ js.length) : dW js ss t m ≤ aT js t m := by
  induction m with
  | zero => simp [dW, aT]
  | succ m ih =>
    have h1 := ih (by omega)
    have h2 := dW_each h t m (by omega)
    rw [dW, aT]
    omega
theorem dW_lt {js : List Jb} {ss : List Int} (h : Sch js ss) (t : Int) (m : Nat) (hm : m ≤ js.length) : dW js ss t m < aT js t m ↔ ∃ i, i < m ∧ js[i]!.t ≤ t ∧ t < ss.getD i 0 + js[i]!.l := by
  induction m with
  | zero => simp [dW, aT]
  | succ m ih =>
    have h1 := ih (by omega)
    have h2 := dW_each h t m (by omega)
    have h3 := dW_le h t m (by omega)
    have h4 := h.pos m (by omega)
    have h5 := h.tick m (by omega)
    rw [dW, aT]
    constructor
    · intro h9
      by_cases hx : dW js ss t m < aT js t m
      · obtain ⟨i, i1, i2⟩ := h1.1 hx
        exact ⟨i, by omega, i2⟩
      · have h8 : clI (t - ss.getD m 0) js[m]!.l < (if js[m]!.t ≤ t then js[m]!.l else 0) := by omega
        refine ⟨m, by omega, ?_⟩
        unfold clI at h8
        by_cases e : js[m]!.t ≤ t
        · rw [if_pos e] at h8
          refine ⟨e, ?_⟩
          repeat' split at h8
          all_goals omega
        · rw [if_neg e] at h8
          repeat' split at h8
          all_goals omega
    · rintro ⟨i, i1, i2, i3⟩
      by_cases e : i = m
      · subst e
        have h8 : clI (t - ss.getD i 0) js[i]!.l < (if js[i]!.t ≤ t then js[i]!.l else 0) := by
          rw [if_pos i2]
          unfold clI
          repeat' split
          all_goals omega
        omega
      · have := h1.2 ⟨i, by omega, i2, i3⟩
        omega
theorem busy_held {js : List Jb} {ss : List Int} (h : Sch js ss) (hb : busyP js ss) (t : Int) : heldB js ss t js.length = true ↔ dW js ss t js.length < aT js t js.length := by
  rw [dW_lt h t _ (Nat.le_refl _)]
  constructor
  · intro h9
    obtain ⟨i, i1, i2, i3⟩ := heldB_t.1 h9
    have := h.tick i i1
    exact ⟨i, i1, by omega, i3⟩
  · rintro ⟨i, i1, i2, i3⟩
    by_cases e : ss.getD i 0 ≤ t
    · exact heldB_t.2 ⟨i, i1, e, i3⟩
    · exact hb i i1 t i2 (by omega)
theorem fifo_busy {js : List Jb} (hA : areJb js = true) : busyP js (fifo js) := by
  have key : ∀ m, m < js.length → ∀ t : Int, js[m]!.t ≤ t → t < fE js (m + 1) → heldB js (fifo js) t js.length = true := by
    intro m
    induction m with
    | zero =>
      intro hm t h1 h2
      rw [fE_succ] at h2
      have hf : fS js 0 = js[0]!.t ∨ fS js 0 = 0 := by unfold fS; split; exact .inl rfl; exact .inr rfl
      have h0 := (tick_at' hA hm).1
      have hge := fS_ge js 0
      have : fS js 0 ≤ t := by rcases hf with h9 | h9 <;> omega
      exact heldB_t.2 ⟨0, hm, by rw [fifo_at js 0 hm]; exact this, by rw [fifo_at js 0 hm]; exact h2⟩
    | succ m ih =>
      intro hm t h1 h2
      rw [fE_succ] at h2
      by_cases e : fS js (m + 1) ≤ t
      · exact heldB_t.2 ⟨m + 1, hm, by rw [fifo_at js _ hm]; exact e, by rw [fifo_at js _ hm]; exact h2⟩
      · have hmn := tick_mono' hA (i := m) (j := m + 1) (by omega) hm
        have : t < fE js (m + 1) := by
          unfold fS at e
          split at e <;> omega
        exact ih (by omega) t (by omega) this
  intro i hi t h1 h2
  rw [fifo_at js i hi] at h2
  have h3 : t < fE js i := by
    unfold fS at h2
    split at h2 <;> omega
  cases i with
  | zero => have := (tick_at' hA hi).1; have : fE js 0 = 0 := rfl; omega
  | succ i =>
    have hmn := tick_mono' hA (i := i) (j := i + 1) (by omega) hi
    exact key i (by omega) t (by omega) h3
theorem held_neg {js : List Jb} {ss : List Int} (h : Sch js ss) {t : Int} (ht : t < 0) : heldB js ss t js.length = false := by
  cases h9 : heldB js ss t js.length
  · rfl
  · obtain ⟨i, i1, i2, _⟩ := heldB_t.1 h9
    have := h.zero i i1
    omega
/-- A schedule is busy just if the line is held as by the first one first. -/
theorem busy_iff {js : List Jb} {ss : List Int} (hA : areJb js = true) (h : Sch js ss) : busyP js ss ↔ ∀ t, heldB js ss t js.length = heldB js (fifo js) t js.length := by
  have hf := Sch.fifo hA
  have hfb := fifo_busy hA
  constructor
  · intro hb
    have key : ∀ k : Nat, dW js ss (k : Int) js.length = dW js (fifo js) (k : Int) js.length := by
      intro k
      induction k with
      | zero => show dW js ss 0 _ = dW js (fifo js) 0 _; rw [dW_zero h _ (Nat.le_refl _), dW_zero hf _ (Nat.le_refl _)]
      | succ k ih =>
        have e : (((k + 1 : Nat)) : Int) = (k : Int) + 1 := by omega
        rw [e, dW_step h _ _ (Nat.le_refl _), dW_step hf _ _ (Nat.le_refl _), ih]
        have h1 := busy_held h hb (k : Int)
        have h2 := busy_held hf hfb (k : Int)
        rw [ih] at h1
        by_cases e : dW js (fifo js) (k : Int) js.length < aT js (k : Int) js.length
        · rw [if_pos (h1.2 e), if_pos (h2.2 e)]
        · rw [if_neg (fun h9 => e (h1.1 h9)), if_neg (fun h9 => e (h2.1 h9))]
    intro t
    rcases Int.lt_or_le t 0 with h0 | h0
    · rw [held_neg h h0, held_neg hf h0]
    · obtain ⟨k, rfl⟩ : ∃ k : Nat, t = k := ⟨t.toNat, by omega⟩
      have h1 := busy_held h hb (k : Int)
      have h2 := busy_held hf hfb (k : Int)
      rw [key k] at h1
      rw [Bool.eq_iff_iff, h1, h2]
  · intro hh i hi t h1 h2
    have key : ∀ k : Nat, dW js ss (k : Int) js.length = dW js (fifo js) (k : Int) js.length := by
      intro k
      induction k with
      | zero => show dW js ss 0 _ = dW js (fifo js) 0 _; rw [dW_zero h _ (Nat.le_refl _), dW_zero hf _ (Nat.le_refl _)]
      | succ k ih =>
        have e : (((k + 1 : Nat)) : Int) = (k : Int) + 1 := by omega
        rw [e, dW_step h _ _ (Nat.le_refl _), dW_step hf _ _ (Nat.le_refl _), ih, hh]
    have ht0 := (tick_at' hA hi).1
    obtain ⟨k, rfl⟩ : ∃ k : Nat, t = k := ⟨t.toNat, by omega⟩
    have hp := h.pos i hi
    have h5 := (dW_lt h (k : Int) _ (Nat.le_refl _)).2 ⟨i, hi, h1, by omega⟩
    rw [key k] at h5
    rw [hh]
    exact (busy_held hf hfb _).2 h5
def Cov (L : List (List Int)) (t : Int) : Prop := ∃ r ∈ L, r.getD 0 0 ≤ t ∧ t < r.getD 1 0
def Canon (L : List (List Int)) : Prop := (∀ r ∈ L, r.length = 2 ∧ r.getD 0 0 < r.getD 1 0) ∧ L.Pairwise (fun a b => a.getD 1 0 < b.getD 0 0)
theorem two_eq {r q : List Int} (hr : r.length = 2) (hq : q.length = 2) (h0 : r.getD 0 0 = q.getD 0 0) (h1 : r.getD 1 0 = q.getD 1 0) : r = q := by
  match r, q, hr, hq with
  | [a, b], [c, d], _, _ =>
    have e1 : a = c := h0
    have e2 : b = d := h1
    rw [e1, e2]
theorem Canon.one {L M : List (List Int)} (hL : Canon L) (hM : Canon M) (h : ∀ t, Cov L t ↔ Cov M t) : L = M := by
  induction L generalizing M with
  | nil =>
    cases M with
    | nil => rfl
    | cons q M =>
      have h1 := hM.1 q (List.mem_cons_self ..)
      obtain ⟨r, hr, _⟩ := (h (q.getD 0 0)).2 ⟨q, List.mem_cons_self .., Int.le_refl _, h1.2⟩
      cases hr
  | cons r L ih =>
    have r1 := hL.1 r (List.mem_cons_self ..)
    have rp := List.pairwise_cons.1 hL.2
    cases M with
    | nil =>
      obtain ⟨q, hq, _⟩ := (h (r.getD 0 0)).1 ⟨r, List.mem_cons_self .., Int.le_refl _, r1.2⟩
      cases hq
    | cons q M =>
      have q1 := hM.1 q (List.mem_cons_self ..)
      have qp := List.pairwise_cons.1 hM.2
      have e0 : r.getD 0 0 = q.getD 0 0 := by
        rcases Int.lt_trichotomy (r.getD 0 0) (q.getD 0 0) with h9 | h9 | h9
        · obtain ⟨x, hx, x1, x2⟩ := (h (r.getD 0 0)).1 ⟨r, List.mem_cons_self .., Int.le_refl _, r1.2⟩
          rcases List.mem_cons.1 hx with rfl | hx
          · omega
          · have := qp.1 x hx; omega
        · exact h9
        · obtain ⟨x, hx, x1, x2⟩ := (h (q.getD 0 0)).2 ⟨q, List.mem_cons_self .., Int.le_refl _, q1.2⟩
          rcases List.mem_cons.1 hx with rfl | hx
          · omega
          · have := rp.1 x hx; omega
      have e1 : r.getD 1 0 = q.getD 1 0 := by
        rcases Int.lt_trichotomy (r.getD 1 0) (q.getD 1 0) with h9 | h9 | h9
        · obtain ⟨x, hx, x1, x2⟩ := (h (r.getD 1 0)).2 ⟨q, List.mem_cons_self .., by omega, h9⟩
          rcases List.mem_cons.1 hx with rfl | hx
          · omega
          · have := rp.1 x hx; omega
        · exact h9
        · obtain ⟨x, hx, x1, x2⟩ := (h (q.getD 1 0)).1 ⟨r, List.mem_cons_self .., by omega, h9⟩
          rcases List.mem_cons.1 hx with rfl | hx
          · omega
          · have := qp.1 x hx; omega
      have hrq := two_eq r1.1 q1.1 e0 e1
      have ht : L = M := by
        refine ih ⟨fun x hx => hL.1 x (List.mem_cons_of_mem _ hx), rp.2⟩ ⟨fun x hx => hM.1 x (List.mem_cons_of_mem _ hx), qp.2⟩ fun t => ?_
        constructor
        · rintro ⟨x, hx, x1, x2⟩
          have hb := rp.1 x hx
          obtain ⟨y, hy, y1, y2⟩ := (h t).1 ⟨x, List.mem_cons_of_mem _ hx, x1, x2⟩
          rcases List.mem_cons.1 hy with rfl | hy
          · omega
          · exact ⟨y, hy, y1, y2⟩
        · rintro ⟨x, hx, x1, x2⟩
          have hb := qp.1 x hx
          obtain ⟨y, hy, y1, y2⟩ := (h t).2 ⟨x, List.mem_cons_of_mem _ hx, x1, x2⟩
          rcases List.mem_cons.1 hy with rfl | hy
          · omega
          · exact ⟨y, hy, y1, y2⟩
      rw [hrq, ht]
theorem addR_snoc (L : List (List Int)) (r : List Int) (s e : Int) : addR (L ++ [r]) s e = if r.getD 1 0 = s then L ++ [r.set 1 e] else (L ++ [r]) ++ [[s, e]] := by
  have h1 : (L ++ [r]).length - 1 = L.length := by simp
  have h2 : (L ++ [r]).getD L.length [] = r := by simp
  have h3 : (L ++ [r]).set L.length (r.set 1 e) = L ++ [r.set 1 e] := by simp
  unfold addR
  rw [h1, h2]
  by_cases hc : r.getD 1 0 = s
  · rw [if_pos ⟨by simp, hc⟩, if_pos hc, h3]
  · rw [if_neg (fun h9 => hc h9.2), if_neg hc]
theorem addR_ok {L : List (List Int)} {s e : Int} (hL : Canon L) (hs : ∀ r ∈ L, r.getD 1 0 ≤ s) (he : s < e) :
    Canon (addR L s e) ∧ (∀ t, Cov (addR L s e) t ↔ Cov L t ∨ (s ≤ t ∧ t < e)) ∧ ∀ r ∈ addR L s e, r.getD 1 0 ≤ e := by
  rcases List.eq_nil_or_concat L with rfl | ⟨M, r, rfl⟩
  · have h1 : addR [] s e = [[s, e]] := rfl
    rw [h1]
    refine ⟨⟨fun r hr => ?_, List.pairwise_singleton _ _⟩, fun t => ?_, fun r hr => ?_⟩
    · rw [List.mem_singleton.1 hr]; exact ⟨rfl, he⟩
    · constructor
      · rintro ⟨r, hr, h2⟩
        rw [List.mem_singleton.1 hr] at h2
        exact .inr h2
      · rintro (⟨r, hr, _⟩ | h2)
        · cases hr
        · exact ⟨_, List.mem_singleton.2 rfl, h2⟩
    · rw [List.mem_singleton.1 hr]; exact Int.le_refl _
  · rw [List.concat_eq_append] at hL hs ⊢
    rw [addR_snoc]
    have hr := hL.1 r (by simp)
    have hrs := hs r (by simp)
    obtain ⟨p1, p2, p3⟩ := List.pairwise_append.1 hL.2
    by_cases hc : r.getD 1 0 = s
    · rw [if_pos hc]
      have h2 : r.set 1 e = [r.getD 0 0, e] := two_list hr.1 e
      rw [h2]
      refine ⟨⟨fun q hq => ?_, ?_⟩, fun t => ?_, fun q hq => ?_⟩
      · rcases List.mem_append.1 hq with hq | hq
        · exact hL.1 q (List.mem_append.2 (.inl hq))
        · rw [List.mem_singleton.1 hq]; exact ⟨rfl, by show r.getD 0 0 < e; omega⟩
      · refine List.pairwise_append.2 ⟨p1, List.pairwise_singleton _ _, fun a ha b hb => ?_⟩
        rw [List.mem_singleton.1 hb]
        exact p3 a ha r (List.mem_singleton.2 rfl)
      · constructor
        · rintro ⟨q, hq, q1, q2⟩
          rcases List.mem_append.1 hq with hq | hq
          · exact .inl ⟨q, List.mem_append.2 (.inl hq), q1, q2⟩
          · rw [List.mem_singleton.1 hq] at q1 q2
            have q1' : r.getD 0 0 ≤ t := q1
            have q2' : t < e := q2
            by_cases h9 : t < s
            · exact .inl ⟨r, by simp, q1', by omega⟩
            · exact .inr ⟨by omega, q2'⟩
        · rintro (⟨q, hq, q1, q2⟩ | ⟨h8, h9⟩)
          · rcases List.mem_append.1 hq with hq | hq
            · exact ⟨q, List.mem_append.2 (.inl hq), q1, q2⟩
            · rw [List.mem_singleton.1 hq] at q1 q2
              exact ⟨[r.getD 0 0, e], by simp, q1, by show t < e; omega⟩
          · exact ⟨[r.getD 0 0, e], by simp, by show r.getD 0 0 ≤ t; omega, h9⟩
      · rcases List.mem_append.1 hq with hq | hq
        · have := hs q (List.mem_append.2 (.inl hq)); omega
        · rw [List.mem_singleton.1 hq]; exact Int.le_refl _
    · rw [if_neg hc]
      refine ⟨⟨fun q hq => ?_, ?_⟩, fun t => ?_, fun q hq => ?_⟩
      · rcases List.mem_append.1 hq with hq | hq
        · exact hL.1 q hq
        · rw [List.mem_singleton.1 hq]; exact ⟨rfl, he⟩
      · refine List.pairwise_append.2 ⟨hL.2, List.pairwise_singleton _ _, fun a ha b hb => ?_⟩
        rw [List.mem_singleton.1 hb]
        show a.getD 1 0 < s
        rcases List.mem_append.1 ha with ha | ha
        · have := p3 a ha r (List.mem_singleton.2 rfl)
          omega
        · rw [List.mem_singleton.1 ha]
          omega
      · constructor
        · rintro ⟨q, hq, q1, q2⟩
          rcases List.mem_append.1 hq with hq | hq
          · exact .inl ⟨q, hq, q1, q2⟩
          · rw [List.mem_singleton.1 hq] at q1 q2
            exact .inr ⟨q1, q2⟩
        · rintro (⟨q, hq, q1, q2⟩ | h8)
          · exact ⟨q, List.mem_append.2 (.inl hq), q1, q2⟩
          · exact ⟨[s, e], by simp, h8⟩
      · rcases List.mem_append.1 hq with hq | hq
        · have := hs q hq; omega
        · rw [List.mem_singleton.1 hq]; exact Int.le_refl _
/-- The stretches of a schedule cover just the ticks at which the line is held. -/
theorem strL_cov {js : List Jb} {ss d : List Int} (h : Sch js ss) (hl : ss.length = js.length) (ho : Order js.length d) (hs : Srt ss d js.length) :
    Canon (strL js ss d js.length) ∧ ∀ t, Cov (strL js ss d js.length) t ↔ heldB js ss t js.length = true := by
  have hd : ∀ p, p < js.length → ∃ i : Nat, i < js.length ∧ d.getD p 0 = i := fun p hp => by
    have := ho.rng p hp
    exact ⟨(d.getD p 0).toNat, by omega, by omega⟩
  have hlt : ∀ p q, p < q → q < js.length → sk ss (d.getD p 0) + js[(d.getD p 0).toNat]!.l ≤ sk ss (d.getD q 0) := by
    intro p q hpq hq
    obtain ⟨i, hi, ei⟩ := hd p (by omega)
    obtain ⟨k, hk, ek⟩ := hd q hq
    have h1 := hs p q hpq hq
    have hne := ho.inj p q hpq hq
    rw [ei, ek, sk_nat, sk_nat] at h1
    rw [ei, ek] at hne
    rw [ei, ek, sk_nat, sk_nat, Int.toNat_natCast]
    have hp := h.pos k hk
    rcases h.apart i k hi hk (by omega) with h9 | h9 <;> omega
  have key : ∀ m, m ≤ js.length → Canon (strL js ss d m) ∧ (∀ t, Cov (strL js ss d m) t ↔ ∃ p, p < m ∧ sk ss (d.getD p 0) ≤ t ∧ t < sk ss (d.getD p 0) + js[(d.getD p 0).toNat]!.l) ∧ ∀ q, m ≤ q → q < js.length → ∀ r ∈ strL js ss d m, r.getD 1 0 ≤ sk ss (d.getD q 0) := by
    intro m
    induction m with
    | zero =>
      intro _
      refine ⟨⟨fun r hr => by simp [strL] at hr, by simp [strL]⟩, fun t => ?_, fun q _ _ r hr => by simp [strL] at hr⟩
      constructor
      · rintro ⟨r, hr, _⟩; simp [strL] at hr
      · rintro ⟨p, hp, _⟩; omega
    | succ m ih =>
      intro hm
      obtain ⟨c1, c2, c3⟩ := ih (by omega)
      obtain ⟨i, hi, ei⟩ := hd m (by omega)
      have hp := h.pos i hi
      have hlen : 1 ≤ js[(d.getD m 0).toNat]!.l := by rw [ei, Int.toNat_natCast]; exact hp
      obtain ⟨a1, a2, a3⟩ := addR_ok (s := sk ss (d.getD m 0)) (e := sk ss (d.getD m 0) + js[(d.getD m 0).toNat]!.l) c1 (c3 m (Nat.le_refl _) (by omega)) (by omega)
      rw [strL]
      refine ⟨a1, fun t => ?_, fun q hq hqn r hr => ?_⟩
      · rw [a2, c2]
        constructor
        · rintro (⟨p, hp, h9⟩ | h9)
          · exact ⟨p, by omega, h9⟩
          · exact ⟨m, by omega, h9⟩
        · rintro ⟨p, hp, h9⟩
          by_cases e : p = m
          · subst e; exact .inr h9
          · exact .inl ⟨p, by omega, h9⟩
      · have h8 := a3 r hr
        have h9 := hlt m q (by omega) hqn
        omega
  obtain ⟨k1, k2, _⟩ := key js.length (Nat.le_refl _)
  refine ⟨k1, fun t => ?_⟩
  rw [k2, heldB_t]
  constructor
  · rintro ⟨p, hp, h1, h2⟩
    obtain ⟨i, hi, ei⟩ := hd p hp
    rw [ei, sk_nat] at h1 h2
    rw [Int.toNat_natCast] at h2
    exact ⟨i, hi, h1, h2⟩
  · rintro ⟨i, hi, h1, h2⟩
    obtain ⟨p, hp, ep⟩ := ho.all i hi
    exact ⟨p, hp, by rw [ep, sk_nat]; exact h1, by rw [ep, sk_nat, Int.toNat_natCast]; exact h2⟩
theorem srt_idx {js : List Jb} (hA : areJb js = true) : Srt (fifo js) (idx js.length) js.length := by
  intro p q hpq hq
  rw [idx_getD _ _ (by omega), idx_getD _ _ hq, sk_nat, sk_nat, fifo_at js p (by omega), fifo_at js q hq]
  have h1 := fS_lt hA hpq hq
  have h2 := tick_at' hA (k := p) (by omega)
  omega
/-- The stretches are those of the first one first just if the schedule is busy. -/
theorem str_busy {js : List Jb} {ss d : List Int} (hg : givenB js ss = true) (hb : schedB js ss = true) (ho : Order js.length d) (hs : Srt ss d js.length) : strL js ss d js.length = bpL js js.length ↔ busyP js ss := by
  have hA := (givenB_t hg).1
  have hl := (givenB_t hg).2.1
  have h := Sch.of hg hb
  obtain ⟨c1, c2⟩ := strL_cov h hl.symm ho hs
  obtain ⟨f1, f2⟩ := strL_cov (Sch.fifo hA) (fifo_len js) (order_idx _) (srt_idx hA)
  rw [(bp_is hA js.length (Nat.le_refl _)).1] at f1 f2
  rw [busy_iff hA h]
  constructor
  · intro e t
    rw [Bool.eq_iff_iff, ← c2, ← f2, e]
  · intro e
    exact c1.one f1 fun t => by rw [c2, f2, e t]
def busyB (js : List Jb) (ss : List Int) : Bool := decide (strL js ss (ordOf ss) js.length = bpL js js.length)
theorem busyB_t {js : List Jb} {ss : List Int} (hg : givenB js ss = true) (hb : schedB js ss = true) : busyB js ss = true ↔ busyP js ss := by
  have hl := (givenB_t hg).2.1
  unfold busyB
  rw [decide_eq_true_eq]
  have h1 := ordOf_order ss
  have h2 := ordOf_srt ss
  rw [← hl] at h1 h2
  exact str_busy hg hb h1 h2
def isBusyOf (js : List Jb) (ss : List Int) : Bool × Bool := if givenB js ss then (schedB js ss && busyB js ss, true) else (false, false)
end Go.Proofs.Yteoggoopfjkdkaa
