/-
  Whatever is chosen whenever the line is free, the starts are a busy schedule; busy schedules have the same weighted waits. For the drawn laws of one line.
-/
import Derived.Test.YtdlmacoblmnajaaMathHeld
namespace Go.Proofs.Ytdlmacoblmnajaa
open Go.RowKit
set_option maxRecDepth 100000
set_option linter.unusedVariables false

theorem getD_set' (l : List Int) (k j : Nat) (x : Int) (hk : k < l.length) : (l.set k x).getD j 0 = if j = k then x else l.getD j 0 := by
  simp only [List.getD_eq_getElem?_getD, List.getElem?_set]
  by_cases e : k = j
  · subst e; simp [hk]
  · simp [e, Ne.symm e]
/-- A run of the line so far: those that have begun are struck. -/
structure RunI (js : List Jb) (tick : Int) (l : List Jb) (out : List Int) : Prop where
  left : LeftOf js l
  lout : out.length = js.length
  pos : 0 ≤ tick
  ok : ∀ k, k < js.length → l[k]! = jbZ → js[k]!.t ≤ out.getD k 0 ∧ out.getD k 0 + js[k]!.l ≤ tick
  apart : ∀ i k, i < js.length → k < js.length → l[i]! = jbZ → l[k]! = jbZ → i ≠ k → out.getD i 0 + js[i]!.l ≤ out.getD k 0 ∨ out.getD k 0 + js[k]!.l ≤ out.getD i 0
  busy : ∀ i, i < js.length → ∀ t : Int, js[i]!.t ≤ t → t < tick → (l[i]! = js[i]! ∨ t < out.getD i 0) → ∃ k, k < js.length ∧ l[k]! = jbZ ∧ out.getD k 0 ≤ t ∧ t < out.getD k 0 + js[k]!.l
theorem jb_ne {js : List Jb} (hA : areJb js = true) {k : Nat} (hk : k < js.length) : js[k]! ≠ jbZ := fun h => by
  have := tick_at' hA hk
  rw [h] at this
  have h2 : jbZ.l = 0 := rfl
  omega
theorem RunI.start {js : List Jb} (hA : areJb js = true) : RunI js 0 js (List.replicate js.length 0) :=
  ⟨LeftOf.refl _, by simp, Int.le_refl _, fun k hk h => absurd h (jb_ne hA hk), fun i k hi hk h _ _ => absurd h (jb_ne hA hi), fun i hi t h1 h2 _ => by have := tick_at' hA hi; omega⟩
theorem RunI.step {js : List Jb} (hA : areJb js = true) {tick : Int} {l : List Jb} {out : List Int} (h : RunI js tick l out) {k : Nat} (hk : k < js.length) (hw : isW (tickOf tick l) l[k]! = true) :
    RunI js (tickOf tick l + l[k]!.l) (l.set k jbZ) (out.set k (tickOf tick l)) := by
  have hj := (isW_t.1 hw).1
  have hkt := (isW_t.1 hw).2
  have hlk := h.left.is hk hj
  have hkl : k < l.length := by rw [h.left.1]; exact hk
  have tk := tick_at' hA hk
  have hko : k < out.length := by rw [h.lout]; exact hk
  have hp : 0 < cntJ l := by
    rcases Nat.eq_zero_or_pos (cntJ l) with h0 | h0
    · have := cntJ_zero h0 k hkl; rw [hj] at this; cases this
    · exact h0
  obtain ⟨u, u1, u2, u3⟩ := cntJ_pos hp
  have hu : u < js.length := by rw [← h.left.1]; exact u1
  have hlu := h.left.is hu u2
  have eT := tickOf_at (tick := tick) u1 u2 u3
  rw [hlu] at eT
  have hT : tick ≤ tickOf tick l := by rw [eT]; split <;> omega
  rw [hlk] at hkt ⊢
  generalize hTT : tickOf tick l = T at hT hkt eT ⊢
  refine ⟨h.left.set k hk, by rw [List.length_set]; exact h.lout, by have := h.pos; omega, fun j hj2 hz => ?_, fun i j hi hj2 hzi hzj hne => ?_, fun i hi t h1 h2 h3 => ?_⟩
  · rw [getD_set' out k j T hko]
    rw [set_get l k jbZ j hkl] at hz
    by_cases e : j = k
    · subst e; rw [if_pos rfl]; omega
    · rw [if_neg e] at hz ⊢
      have := h.ok j hj2 hz
      omega
  · rw [getD_set' out k i T hko, getD_set' out k j T hko]
    rw [set_get l k jbZ i hkl] at hzi
    rw [set_get l k jbZ j hkl] at hzj
    by_cases e1 : i = k
    · rw [if_pos e1]
      have e2 : j ≠ k := fun h9 => hne (by rw [e1, h9])
      rw [if_neg e2] at hzj ⊢
      have := h.ok j hj2 hzj
      right; omega
    · rw [if_neg e1] at hzi ⊢
      by_cases e2 : j = k
      · rw [if_pos e2]
        have := h.ok i hi hzi
        left; omega
      · rw [if_neg e2] at hzj ⊢
        exact h.apart i j hi hj2 hzi hzj hne
  · by_cases hTt : T ≤ t
    · refine ⟨k, hk, ?_, ?_, ?_⟩
      · rw [set_get l k jbZ k hkl, if_pos rfl]
      · rw [getD_set' out k k T hko, if_pos rfl]; exact hTt
      · rw [getD_set' out k k T hko, if_pos rfl]; exact h2
    · have hold : l[i]! = js[i]! ∨ t < out.getD i 0 := by
        rw [set_get l k jbZ i hkl, getD_set' out k i T hko] at h3
        by_cases e : i = k
        · subst e
          exact .inl hlk
        · rw [if_neg e, if_neg e] at h3
          exact h3
      have htk : t < tick := by
        rcases Int.lt_or_le t tick with h9 | h9
        · exact h9
        · exfalso
          have hTu : T = js[u]!.t := by
            rw [eT]
            split
            · rfl
            · rename_i hn; rw [if_neg hn] at eT; omega
          have hunb : l[i]! = js[i]! := by
            rcases hold with h8 | h8
            · exact h8
            · rcases h.left.2 i hi with h7 | h7
              · exact h7
              · have := (h.ok i hi h7).2
                have := tick_at' hA hi
                omega
          have hui : u ≤ i := by
            rcases Nat.lt_or_ge i u with h8 | h8
            · have h7 := u3 i h8
              rw [hunb] at h7
              have := isJ_ok (tick_at' hA hi).2.2.2.2.1
              rw [h7] at this; cases this
            · exact h8
          have := tick_mono' hA hui hi
          omega
      obtain ⟨q, hq, hqz, q1, q2⟩ := h.busy i hi t h1 htk hold
      refine ⟨q, hq, ?_, ?_⟩
      · rw [set_get l k jbZ q hkl]
        split
        · rfl
        · exact hqz
      · have hqk : q ≠ k := fun h9 => by
          rw [h9, hlk] at hqz
          exact jb_ne hA hk hqz
        rw [getD_set' out k q T hko, if_neg hqk]
        exact ⟨q1, q2⟩
/-- At the end. -/
theorem RunI.done {js : List Jb} (hA : areJb js = true) {tick : Int} {l : List Jb} {out : List Int} (h : RunI js tick l out) (h0 : cntJ l = 0) : Sch js out ∧ busyP js out := by
  have hz : ∀ k, k < js.length → l[k]! = jbZ := fun k hk => by
    rcases h.left.2 k hk with h9 | h9
    · have h1 := cntJ_zero h0 k (by rw [h.left.1]; exact hk)
      rw [h9, isJ_ok (tick_at' hA hk).2.2.2.2.1] at h1
      cases h1
    · exact h9
  refine ⟨⟨fun i hi => (tick_at' hA hi).2.2.2.2.1, fun i hi => ?_, fun i hi => (h.ok i hi (hz i hi)).1, fun i k hi hk hne => h.apart i k hi hk (hz i hi) (hz k hk) hne⟩, fun i hi t h1 h2 => ?_⟩
  · have := (h.ok i hi (hz i hi)).1
    have := (tick_at' hA hi).1
    omega
  · have := (h.ok i hi (hz i hi)).2
    have hp := (tick_at' hA hi).2.2.2.2.1
    obtain ⟨k, hk, _, k1, k2⟩ := h.busy i hi t h1 (by omega) (.inr h2)
    exact heldB_t.2 ⟨k, hk, k1, k2⟩
/-- Starts by rank are a busy schedule. -/
theorem runL_busy {js : List Jb} (hA : areJb js = true) (rk : Int → Jb → Int) (f : Nat) (tick : Int) (l : List Jb) (out : List Int) (h : RunI js tick l out) (hf : cntJ l ≤ f) : Sch js (runL rk f tick l out) ∧ busyP js (runL rk f tick l out) := by
  induction f generalizing tick l out with
  | zero => exact h.done hA (by omega)
  | succ f ih =>
    rcases Nat.eq_zero_or_pos (cntJ l) with h0 | h0
    · rw [runL]
      have hnone : pickOf (rk (tickOf tick l)) (tickOf tick l) l = none := by
        cases hp : pickOf (rk (tickOf tick l)) (tickOf tick l) l with
        | none => rfl
        | some k =>
          obtain ⟨k1, k2⟩ := bestOf_some hp
          have := cntJ_zero h0 k k1
          rw [(isW_t.1 k2).1] at this; cases this
      rw [hnone]
      exact h.done hA h0
    · obtain ⟨u, f0, k, u1, u2, u3, hT, hfst, hpk, hkl, hkj, hT0, hT1, hbd⟩ := step_of (rk := rk) hA h.left h0 h.pos
      rw [runL_step hpk]
      have hk : k < js.length := by rw [← h.left.1]; exact hkl
      have hc := cntJ_set hkl hkj
      exact ih _ _ _ (h.step hA hk (bestOf_some hpk).2) (by omega)
theorem startsOf_busy {js : List Jb} (hA : areJb js = true) (rk : Int → Jb → Int) : Sch js (startsOf rk js) ∧ busyP js (startsOf rk js) :=
  runL_busy hA rk _ _ _ _ (RunI.start hA) (cntJ_le js)
/-- Squares: what a job adds till a tick. -/
def sqI (t s l : Int) : Int := (s + clI (t - s) l) * (s + clI (t - s) l) - s * s
def sqW (js : List Jb) (ss : List Int) (t : Int) : Nat → Int
  | 0 => 0
  | m + 1 => sqW js ss t m + sqI t (ss.getD m 0) js[m]!.l
theorem sqI_step {t s l : Int} (hl : 1 ≤ l) : sqI (t + 1) s l = sqI t s l + if s ≤ t ∧ t < s + l then 2 * t + 1 else 0 := by
  unfold sqI clI
  by_cases h1 : s ≤ t ∧ t < s + l
  · rw [if_pos h1]
    have e1 : s + (if t + 1 - s ≤ 0 then 0 else if t + 1 - s < l then t + 1 - s else l) = t + 1 := by (repeat' split) <;> omega
    have e2 : s + (if t - s ≤ 0 then 0 else if t - s < l then t - s else l) = t := by (repeat' split) <;> omega
    rw [e1, e2, Int.add_mul, Int.mul_add]
    omega
  · rw [if_neg h1]
    have e : (if t + 1 - s ≤ 0 then 0 else if t + 1 - s < l then t + 1 - s else l) = (if t - s ≤ 0 then 0 else if t - s < l then t - s else l) := by (repeat' split) <;> omega
    rw [e]
    omega
theorem sqW_step {js : List Jb} {ss : List Int} (h : Sch js ss) (t : Int) (m : Nat) (hm : m ≤ js.length) : sqW js ss (t + 1) m = sqW js ss t m + if heldB js ss t m = true then 2 * t + 1 else 0 := by
  induction m with
  | zero => simp [sqW, heldB]
  | succ m ih =>
    have h1 := ih (by omega)
    have hp := h.pos m (by omega)
    rw [sqW, sqW, h1, sqI_step hp]
    by_cases hx : ss.getD m 0 ≤ t ∧ t < ss.getD m 0 + js[m]!.l
    · have hno : ¬ heldB js ss t m = true := fun h9 => by
        obtain ⟨i, i1, i2, i3⟩ := heldB_t.1 h9
        rcases h.apart i m (by omega) (by omega) (by omega) with h8 | h8 <;> omega
      have hy : heldB js ss t (m + 1) = true := heldB_t.2 ⟨m, by omega, hx⟩
      rw [if_pos hx, if_neg hno, if_pos hy]
      omega
    · rw [if_neg hx]
      have hy : heldB js ss t (m + 1) = heldB js ss t m := by
        rw [heldB]
        have : (decide (ss.getD m 0 ≤ t) && decide (t < ss.getD m 0 + js[m]!.l)) = false := by
          rw [Bool.and_eq_false_iff]
          by_cases h8 : ss.getD m 0 ≤ t
          · right; exact decide_eq_false (fun h7 => hx ⟨h8, h7⟩)
          · left; exact decide_eq_false h8
        rw [this, Bool.or_false]
      rw [hy]
      omega
theorem sqW_zero {js : List Jb} {ss : List Int} (h : Sch js ss) (m : Nat) (hm : m ≤ js.length) : sqW js ss 0 m = 0 := by
  induction m with
  | zero => rfl
  | succ m ih =>
    have := h.zero m (by omega)
    rw [sqW, ih (by omega), sqI, clI, if_pos (by omega)]
    simp
/-- Schedules that hold the line at the same ticks have the same squares. -/
theorem sqW_same {js : List Jb} {ss rr : List Int} (h : Sch js ss) (k : Sch js rr) (hh : ∀ t, heldB js ss t js.length = heldB js rr t js.length) (t : Nat) : sqW js ss (t : Int) js.length = sqW js rr (t : Int) js.length := by
  induction t with
  | zero => show sqW js ss 0 _ = sqW js rr 0 _; rw [sqW_zero h _ (Nat.le_refl _), sqW_zero k _ (Nat.le_refl _)]
  | succ t ih =>
    have e : (((t + 1 : Nat)) : Int) = (t : Int) + 1 := by omega
    rw [e, sqW_step h _ _ (Nat.le_refl _), sqW_step k _ _ (Nat.le_refl _), ih, hh]
/-- Starts times lengths. -/
def slW (js : List Jb) (ss : List Int) : Nat → Int
  | 0 => 0
  | m + 1 => slW js ss m + ss.getD m 0 * js[m]!.l
def llW (js : List Jb) : Nat → Int
  | 0 => 0
  | m + 1 => llW js m + js[m]!.l * js[m]!.l
theorem sqW_end {js : List Jb} {ss : List Int} (h : Sch js ss) (t : Int) (ht : ∀ i, i < js.length → ss.getD i 0 + js[i]!.l ≤ t) (m : Nat) (hm : m ≤ js.length) : sqW js ss t m = 2 * slW js ss m + llW js m := by
  induction m with
  | zero => rfl
  | succ m ih =>
    have h1 := ht m (by omega)
    have h2 := h.pos m (by omega)
    have e : clI (t - ss.getD m 0) js[m]!.l = js[m]!.l := by unfold clI; repeat' split
                                                             all_goals omega
    rw [sqW, slW, llW, ih (by omega), sqI, e]
    generalize ss.getD m 0 = s
    generalize js[m]!.l = y
    have e3 : (s + y) * (s + y) = s * s + 2 * (s * y) + y * y := by
      rw [Int.add_mul, Int.mul_add, Int.mul_add, Int.mul_comm y s]
      omega
    rw [e3, Int.mul_add]
    omega
/-- .. and so the same weighted waits. -/
theorem slW_same {js : List Jb} {ss rr : List Int} (h : Sch js ss) (k : Sch js rr) (hh : ∀ t, heldB js ss t js.length = heldB js rr t js.length) : slW js ss js.length = slW js rr js.length := by
  have hb : ∃ t : Nat, (∀ i, i < js.length → ss.getD i 0 + js[i]!.l ≤ (t : Int)) ∧ ∀ i, i < js.length → rr.getD i 0 + js[i]!.l ≤ (t : Int) := by
    have key : ∀ m, m ≤ js.length → ∃ t : Nat, (∀ i, i < m → ss.getD i 0 + js[i]!.l ≤ (t : Int)) ∧ ∀ i, i < m → rr.getD i 0 + js[i]!.l ≤ (t : Int) := by
      intro m
      induction m with
      | zero => intro _; exact ⟨0, fun i hi => absurd hi (by omega), fun i hi => absurd hi (by omega)⟩
      | succ m ih =>
        intro hm
        obtain ⟨t, t1, t2⟩ := ih (by omega)
        refine ⟨t + (ss.getD m 0 + js[m]!.l).toNat + (rr.getD m 0 + js[m]!.l).toNat, fun i hi => ?_, fun i hi => ?_⟩
        · by_cases e : i = m
          · subst e; omega
          · have := t1 i (by omega); omega
        · by_cases e : i = m
          · subst e; omega
          · have := t2 i (by omega); omega
    exact key _ (Nat.le_refl _)
  obtain ⟨t, t1, t2⟩ := hb
  have h1 := sqW_end h (t : Int) t1 _ (Nat.le_refl _)
  have h2 := sqW_end k (t : Int) t2 _ (Nat.le_refl _)
  have h3 := sqW_same h k hh t
  omega
theorem busy_same {js : List Jb} {ss rr : List Int} (hA : areJb js = true) (h : Sch js ss) (k : Sch js rr) (hb : busyP js ss) (kb : busyP js rr) : slW js ss js.length = slW js rr js.length :=
  slW_same h k fun t => ((busy_iff hA h).1 hb t).trans ((busy_iff hA k).1 kb t).symm
/-- Ticks that are covered one behind the other lie in one row. -/
theorem Canon.within {L : List (List Int)} (hL : Canon L) {a b : Int} (hab : a < b) (h : ∀ t, a ≤ t → t < b → Cov L t) : ∃ r ∈ L, r.getD 0 0 ≤ a ∧ b ≤ r.getD 1 0 := by
  obtain ⟨r, hr, r1, r2⟩ := h a (Int.le_refl _) hab
  refine ⟨r, hr, r1, ?_⟩
  rcases Int.lt_or_le (r.getD 1 0) b with h9 | h9
  · exfalso
    obtain ⟨q, hq, q1, q2⟩ := h (r.getD 1 0) (by omega) h9
    obtain ⟨i, hi, ei⟩ := List.getElem_of_mem hr
    obtain ⟨j, hj, ej⟩ := List.getElem_of_mem hq
    have hp := hL.2
    rw [List.pairwise_iff_getElem] at hp
    rcases Nat.lt_trichotomy i j with h8 | h8 | h8
    · have := hp i j hi hj h8
      rw [ei, ej] at this
      omega
    · subst h8
      rw [ei] at ej
      rw [ej] at q2
      omega
    · have := hp j i hj hi h8
      rw [ei, ej] at this
      omega
  · exact h9
end Go.Proofs.Ytdlmacoblmnajaa
