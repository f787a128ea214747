/-
  Whatever is chosen whenever the line is free, the starts are a busy schedule; busy schedules have the same weighted waits. For the drawn laws of one line. Turns and deficits make busy schedules: mathematics of FnOrdersOfOneLine. What the law FnOrdersOfOneLine goes by.
-/
import Derived.Test.YteoggoopfjkdkaaMathHeld
import Derived.Test.YteoggoopfjkdkaaMathTurn
import Derived.Test.YteoggoopfjkdkaaMathSched
namespace Go.Proofs.Yteoggoopfjkdkaa
section
open Go.RowKit
set_option maxRecDepth 100000
set_option linter.unusedVariables false

theorem getD_set' (l : List Int) (k j : Nat) (x : Int) (hk : k < l.length) : (l.set k x).getD j 0 = if j = k then x else l.getD j 0 := by
  simp only [List.getD_eq_getElem?_getD, List.getElem?_set]
  by_cases e : k = j
  · subst e; simp [hk]
  · simp [e, Ne.symm e]
/-- A run of the line so far: those that have begun are struck. -/
structure RunI (js : List Jb) (tick : Int) (l : List Jb) (out : List Int) : Prop where
  left : LeftOf js l
  lout : out.length = js.length
  pos : 0 ≤ tick
  ok : ∀ k, k < js.length → l[k]! = jbZ → js[k]!.t ≤ out.getD k 0 ∧ out.getD k 0 + js[k]!.l ≤ tick
  apart : ∀ i k, i < js.length → k < js.length → l[i]! = jbZ → l[k]! = jbZ → i ≠ k → out.getD i 0 + js[i]!.l ≤ out.getD k 0 ∨ out.getD k 0 + js[k]!.l ≤ out.getD i 0
  busy : ∀ i, i < js.length → ∀ t : Int, js[i]!.t ≤ t → t < tick → (l[i]! = js[i]! ∨ t < out.getD i 0) → ∃ k, k < js.length ∧ l[k]! = jbZ ∧ out.getD k 0 ≤ t ∧ t < out.getD k 0 + js[k]!.l
theorem jb_ne {js : List Jb} (hA : areJb js = true) {k : Nat} (hk : k < js.length) : js[k]! ≠ jbZ := fun h => by
  have := tick_at' hA hk
  rw [h] at this
  have h2 : jbZ.l = 0 := rfl
  omega
theorem RunI.start {js : List Jb} (hA : areJb js = true) : RunI js 0 js (List.replicate js.length 0) :=
  ⟨LeftOf.refl _, by simp, Int.le_refl _, fun k hk h => absurd h (jb_ne hA hk), fun i k hi hk h _ _ => absurd h (jb_ne hA hi), fun i hi t h1 h2 _ => by have := tick_at' hA hi; omega⟩
theorem RunI.step {js : List Jb} (hA : areJb js = true) {tick : Int} {l : List Jb} {out : List Int} (h : RunI js tick l out) {k : Nat} (hk : k < js.length) (hw : isW (tickOf tick l) l[k]! = true) :
    RunI js (tickOf tick l + l[k]!.l) (l.set k jbZ) (out.set k (tickOf tick l)) := by
  have hj := (isW_t.1 hw).1
  have hkt := (isW_t.1 hw).2
  have hlk := h.left.is hk hj
  have hkl : k < l.length := by rw [h.left.1]; exact hk
  have tk := tick_at' hA hk
  have hko : k < out.length := by rw [h.lout]; exact hk
  have hp : 0 < cntJ l := by
    rcases Nat.eq_zero_or_pos (cntJ l) with h0 | h0
    · have := cntJ_zero h0 k hkl; rw [hj] at this; cases this
    · exact h0
  obtain ⟨u, u1, u2, u3⟩ := cntJ_pos hp
  have hu : u < js.length := by rw [← h.left.1]; exact u1
  have hlu := h.left.is hu u2
  have eT := tickOf_at (tick := tick) u1 u2 u3
  rw [hlu] at eT
  have hT : tick ≤ tickOf tick l := by rw [eT]; split <;> omega
  rw [hlk] at hkt ⊢
  generalize hTT : tickOf tick l = T at hT hkt eT ⊢
  refine ⟨h.left.set k hk, by rw [List.length_set]; exact h.lout, by have := h.pos; omega, fun j hj2 hz => ?_, fun i j hi hj2 hzi hzj hne => ?_, fun i hi t h1 h2 h3 => ?_⟩
  · rw [getD_set' out k j T hko]
    rw [set_get l k jbZ j hkl] at hz
    by_cases e : j = k
    · subst e; rw [if_pos rfl]; omega
    · rw [if_neg e] at hz ⊢
      have := h.ok j hj2 hz
      omega
  · rw [getD_set' out k i T hko, getD_set' out k j T hko]
    rw [set_get l k jbZ i hkl] at hzi
    rw [set_get l k jbZ j hkl] at hzj
    by_cases e1 : i = k
    · rw [if_pos e1]
      have e2 : j ≠ k := fun h9 => hne (by rw [e1, h9])
      rw [if_neg e2] at hzj ⊢
      have := h.ok j hj2 hzj
      right; omega
    · rw [if_neg e1] at hzi ⊢
      by_cases e2 : j = k
      · rw [if_pos e2]
        have := h.ok i hi hzi
        left; omega
      · rw [if_neg e2] at hzj ⊢
        exact h.apart i j hi hj2 hzi hzj hne
  · by_cases hTt : T ≤ t
    · refine ⟨k, hk, ?_, ?_, ?_⟩
      · rw [set_get l k jbZ k hkl, if_pos rfl]
      · rw [getD_set' out k k T hko, if_pos rfl]; exact hTt
      · rw [getD_set' out k k T hko, if_pos rfl]; exact h2
    · have hold : l[i]! = js[i]! ∨ t < out.getD i 0 := by
        rw [set_get l k jbZ i hkl, getD_set' out k i T hko] at h3
        by_cases e : i = k
        · subst e
          exact .inl hlk
        · rw [if_neg e, if_neg e] at h3
          exact h3
      have htk : t < tick := by
        rcases Int.lt_or_le t tick with h9 | h9
        · exact h9
        · exfalso
          have hTu : T = js[u]!.t := by
            rw [eT]
            split
            · rfl
            · rename_i hn; rw [if_neg hn] at eT; omega
          have hunb : l[i]! = js[i]! := by
            rcases hold with h8 | h8
            · exact h8
            · rcases h.left.2 i hi with h7 | h7
              · exact h7
              · have := (h.ok i hi h7).2
                have := tick_at' hA hi
                omega
          have hui : u ≤ i := by
            rcases Nat.lt_or_ge i u with h8 | h8
            · have h7 := u3 i h8
              rw [hunb] at h7
              have := isJ_ok (tick_at' hA hi).2.2.2.2.1
              rw [h7] at this; cases this
            · exact h8
          have := tick_mono' hA hui hi
          omega
      obtain ⟨q, hq, hqz, q1, q2⟩ := h.busy i hi t h1 htk hold
      refine ⟨q, hq, ?_, ?_⟩
      · rw [set_get l k jbZ q hkl]
        split
        · rfl
        · exact hqz
      · have hqk : q ≠ k := fun h9 => by
          rw [h9, hlk] at hqz
          exact jb_ne hA hk hqz
        rw [getD_set' out k q T hko, if_neg hqk]
        exact ⟨q1, q2⟩
/-- At the end. -/
theorem RunI.done {js : List Jb} (hA : areJb js = true) {tick : Int} {l : List Jb} {out : List Int} (h : RunI js tick l out) (h0 : cntJ l = 0) : Sch js out ∧ busyP js out := by
  have hz : ∀ k, k < js.length → l[k]! = jbZ := fun k hk => by
    rcases h.left.2 k hk with h9 | h9
    · have h1 := cntJ_zero h0 k (by rw [h.left.1]; exact hk)
      rw [h9, isJ_ok (tick_at' hA hk).2.2.2.2.1] at h1
      cases h1
    · exact h9
  refine ⟨⟨fun i hi => (tick_at' hA hi).2.2.2.2.1, fun i hi => ?_, fun i hi => (h.ok i hi (hz i hi)).1, fun i k hi hk hne => h.apart i k hi hk (hz i hi) (hz k hk) hne⟩, fun i hi t h1 h2 => ?_⟩
  · have := (h.ok i hi (hz i hi)).1
    have := (tick_at' hA hi).1
    omega
  · have := (h.ok i hi (hz i hi)).2
    have hp := (tick_at' hA hi).2.2.2.2.1
    obtain ⟨k, hk, _, k1, k2⟩ := h.busy i hi t h1 (by omega) (.inr h2)
    exact heldB_t.2 ⟨k, hk, k1, k2⟩
/-- Starts by rank are a busy schedule. -/
theorem runL_busy {js : List Jb} (hA : areJb js = true) (rk : Int → Jb → Int) (f : Nat) (tick : Int) (l : List Jb) (out : List Int) (h : RunI js tick l out) (hf : cntJ l ≤ f) : Sch js (runL rk f tick l out) ∧ busyP js (runL rk f tick l out) := by
  induction f generalizing tick l out with
  | zero => exact h.done hA (by omega)
  | succ f ih =>
    rcases Nat.eq_zero_or_pos (cntJ l) with h0 | h0
    · rw [runL]
      have hnone : pickOf (rk (tickOf tick l)) (tickOf tick l) l = none := by
        cases hp : pickOf (rk (tickOf tick l)) (tickOf tick l) l with
        | none => rfl
        | some k =>
          obtain ⟨k1, k2⟩ := bestOf_some hp
          have := cntJ_zero h0 k k1
          rw [(isW_t.1 k2).1] at this; cases this
      rw [hnone]
      exact h.done hA h0
    · obtain ⟨u, f0, k, u1, u2, u3, hT, hfst, hpk, hkl, hkj, hT0, hT1, hbd⟩ := step_of (rk := rk) hA h.left h0 h.pos
      rw [runL_step hpk]
      have hk : k < js.length := by rw [← h.left.1]; exact hkl
      have hc := cntJ_set hkl hkj
      exact ih _ _ _ (h.step hA hk (bestOf_some hpk).2) (by omega)
theorem startsOf_busy {js : List Jb} (hA : areJb js = true) (rk : Int → Jb → Int) : Sch js (startsOf rk js) ∧ busyP js (startsOf rk js) :=
  runL_busy hA rk _ _ _ _ (RunI.start hA) (cntJ_le js)
/-- Squares: what a job adds till a tick. -/
def sqI (t s l : Int) : Int := (s + clI (t - s) l) * (s + clI (t - s) l) - s * s
def sqW (js : List Jb) (ss : List Int) (t : Int) : Nat → Int
  | 0 => 0
  | m + 1 => sqW js ss t m + sqI t (ss.getD m 0) js[m]!.l
theorem sqI_step {t s l : Int} (hl : 1 ≤ l) : sqI (t + 1) s l = sqI t s l + if s ≤ t ∧ t < s + l then 2 * t + 1 else 0 := by
  unfold sqI clI
  by_cases h1 : s ≤ t ∧ t < s + l
  · rw [if_pos h1]
    have e1 : s + (if t + 1 - s ≤ 0 then 0 else if t + 1 - s < l then t + 1 - s else l) = t + 1 := by (repeat' split) <;> omega
    have e2 : s + (if t - s ≤ 0 then 0 else if t - s < l then t - s else l) = t := by (repeat' split) <;> omega
    rw [e1, e2, Int.add_mul, Int.mul_add]
    omega
  · rw [if_neg h1]
    have e : (if t + 1 - s ≤ 0 then 0 else if t + 1 - s < l then t + 1 - s else l) = (if t - s ≤ 0 then 0 else if t - s < l then t - s else l) := by (repeat' split) <;> omega
    rw [e]
    omega
theorem sqW_step {js : List Jb} {ss : List Int} (h : Sch js ss) (t : Int) (m : Nat) (hm : m ≤ js.length) : sqW js ss (t + 1) m = sqW js ss t m + if heldB js ss t m = true then 2 * t + 1 else 0 := by
  induction m with
  | zero => simp [sqW, heldB]
  | succ m ih =>
    have h1 := ih (by omega)
    have hp := h.pos m (by omega)
    rw [sqW, sqW, h1, sqI_step hp]
    by_cases hx : ss.getD m 0 ≤ t ∧ t < ss.getD m 0 + js[m]!.l
    · have hno : ¬ heldB js ss t m = true := fun h9 => by
        obtain ⟨i, i1, i2, i3⟩ := heldB_t.1 h9
        rcases h.apart i m (by omega) (by omega) (by omega) with h8 | h8 <;> omega
      have hy : heldB js ss t (m + 1) = true := heldB_t.2 ⟨m, by omega, hx⟩
      rw [if_pos hx, if_neg hno, if_pos hy]
      omega
    · rw [if_neg hx]
      have hy : heldB js ss t (m + 1) = heldB js ss t m := by
        rw [heldB]
        have : (decide (ss.getD m 0 ≤ t) && decide (t < ss.getD m 0 + js[m]!.l)) = false := by
          rw [Bool.and_eq_false_iff]
          by_cases h8 : ss.getD m 0 ≤ t
          · right; exact decide_eq_false (fun h7 => hx ⟨h8, h7⟩)
          · left; exact decide_eq_false h8
        rw [this, Bool.or_false]
      rw [hy]
      omega
theorem sqW_zero {js : List Jb} {ss : List Int} (h : Sch js ss) (m : Nat) (hm : m ≤ js.length) : sqW js ss 0 m = 0 := by
  induction m with
  | zero => rfl
  | succ m ih =>
    have := h.zero m (by omega)
    rw [sqW, ih (by omega), sqI, clI, if_pos (by omega)]
    simp
/-- Schedules that hold the line at the same ticks have the same squares. -/
theorem sqW_same {js : List Jb} {ss rr : List Int} (h : Sch js ss) (k : Sch js rr) (hh : ∀ t, heldB js ss t js.length = heldB js rr t js.length) (t : Nat) : sqW js ss (t : Int) js.length = sqW js rr (t : Int) js.length := by
  induction t with
  | zero => show sqW js ss 0 _ = sqW js rr 0 _; rw [sqW_zero h _ (Nat.le_refl _), sqW_zero k _ (Nat.le_refl _)]
  | succ t ih =>
    have e : (((t + 1 : Nat)) : Int) = (t : Int) + 1 := by omega
    rw [e, sqW_step h _ _ (Nat.le_refl _), sqW_step k _ _ (Nat.le_refl _), ih, hh]
/-- Starts times lengths. -/
def slW (js : List Jb) (ss : List Int) : Nat → Int
  | 0 => 0
  | m + 1 => slW js ss m + ss.getD m 0 * js[m]!.l
def llW (js : List Jb) : Nat → Int
  | 0 => 0
  | m + 1 => llW js m + js[m]!.l * js[m]!.l
theorem sqW_end {js : List Jb} {ss : List Int} (h : Sch js ss) (t : Int) (ht : ∀ i, i < js.length → ss.getD i 0 + js[i]!.l ≤ t) (m : Nat) (hm : m ≤ js.length) : sqW js ss t m = 2 * slW js ss m + llW js m := by
  induction m with
  | zero => rfl
  | succ m ih =>
    have h1 := ht m (by omega)
    have h2 := h.pos m (by omega)
    have e : clI (t - ss.getD m 0) js[m]!.l = js[m]!.l := by unfold clI; repeat' split
                                                             all_goals omega
    rw [sqW, slW, llW, ih (by omega), sqI, e]
    generalize ss.getD m 0 = s
    generalize js[m]!.l = y
    have e3 : (s + y) * (s + y) = s * s + 2 * (s * y) + y * y := by
      rw [Int.add_mul, Int.mul_add, Int.mul_add, Int.mul_comm y s]
      omega
    rw [e3, Int.mul_add]
    omega
/-- .. and so the same weighted waits. -/
theorem slW_same {js : List Jb} {ss rr : List Int} (h : Sch js ss) (k : Sch js rr) (hh : ∀ t, heldB js ss t js.length = heldB js rr t js.length) : slW js ss js.length = slW js rr js.length := by
  have hb : ∃ t : Nat, (∀ i, i < js.length → ss.getD i 0 + js[i]!.l ≤ (t : Int)) ∧ ∀ i, i < js.length → rr.getD i 0 + js[i]!.l ≤ (t : Int) := by
    have key : ∀ m, m ≤ js.length → ∃ t : Nat, (∀ i, i < m → ss.getD i 0 + js[i]!.l ≤ (t : Int)) ∧ ∀ i, i < m → rr.getD i 0 + js[i]!.l ≤ (t : Int) := by
      intro m
      induction m with
      | zero => intro _; exact ⟨0, fun i hi => absurd hi (by omega), fun i hi => absurd hi (by omega)⟩
      | succ m ih =>
        intro hm
        obtain ⟨t, t1, t2⟩ := ih (by omega)
        refine ⟨t + (ss.getD m 0 + js[m]!.l).toNat + (rr.getD m 0 + js[m]!.l).toNat, fun i hi => ?_, fun i hi => ?_⟩
        · by_cases e : i = m
          · subst e; omega
          · have := t1 i (by omega); omega
        · by_cases e : i = m
          · subst e; omega
          · have := t2 i (by omega); omega
    exact key _ (Nat.le_refl _)
  obtain ⟨t, t1, t2⟩ := hb
  have h1 := sqW_end h (t : Int) t1 _ (Nat.le_refl _)
  have h2 := sqW_end k (t : Int) t2 _ (Nat.le_refl _)
  have h3 := sqW_same h k hh t
  omega
theorem busy_same {js : List Jb} {ss rr : List Int} (hA : areJb js = true) (h : Sch js ss) (k : Sch js rr) (hb : busyP js ss) (kb : busyP js rr) : slW js ss js.length = slW js rr js.length :=
  slW_same h k fun t => ((busy_iff hA h).1 hb t).trans ((busy_iff hA k).1 kb t).symm
/-- Ticks that are covered one behind the other lie in one row. -/
theorem Canon.within {L : List (List Int)} (hL : Canon L) {a b : Int} (hab : a < b) (h : ∀ t, a ≤ t → t < b → Cov L t) : ∃ r ∈ L, r.getD 0 0 ≤ a ∧ b ≤ r.getD 1 0 := by
  obtain ⟨r, hr, r1, r2⟩ := h a (Int.le_refl _) hab
  refine ⟨r, hr, r1, ?_⟩
  rcases Int.lt_or_le (r.getD 1 0) b with h9 | h9
  · exfalso
    obtain ⟨q, hq, q1, q2⟩ := h (r.getD 1 0) (by omega) h9
    obtain ⟨i, hi, ei⟩ := List.getElem_of_mem hr
    obtain ⟨j, hj, ej⟩ := List.getElem_of_mem hq
    have hp := hL.2
    rw [List.pairwise_iff_getElem] at hp
    rcases Nat.lt_trichotomy i j with h8 | h8 | h8
    · have := hp i j hi hj h8
      rw [ei, ej] at this
      omega
    · subst h8
      rw [ei] at ej
      rw [ej] at q2
      omega
    · have := hp j i hj hi h8
      rw [ei, ej] at this
      omega
  · exact h9
end
section
open Go.RowKit
set_option maxRecDepth 100000
set_option linter.unusedVariables false

theorem runT_busy {js : List Jb} (hA : areJb js = true) {gr : List Int} {pr : Jb → Int} (hg : ∀ c, c < 8 → 1 ≤ gr.getD c 0 ∧ gr.getD c 0 ≤ 40) (hpr : ∀ k, k < js.length → pr js[k]! ≤ 20)
    (f : Nat) (tick : Int) (l : List Jb) (out : List Int) (tc : Nat) (tb : Bool) (cr : Nat → Int) (t0 : Int) (hI : RunI js t0 l out) (ht : tickOf t0 l = tickOf tick l) (hF : Fu f tick l tc tb cr) (htc : tc < 8) (hc : ∀ c, c < 8 → 0 ≤ cr c) :
    Sch js (runT gr pr f tick l out tc tb cr) ∧ busyP js (runT gr pr f tick l out tc tb cr) := by
  induction f generalizing tick l out tc tb cr t0 with
  | zero =>
    rcases Nat.eq_zero_or_pos (cntJ l) with h0 | h0
    · rw [runT_off _ _ _ _ _ _ _ _ _ h0]
      exact hI.done hA h0
    · exfalso
      obtain ⟨u, f0, k, u1, u2, u3, hT, hfst, hpk, hkl, hkj, hT0, hT1, hbd⟩ := step_of (rk := rk0) hA hI.left h0 hI.pos
      rw [ht] at hfst
      have := hF f0 hfst
      omega
  | succ f ih =>
    rcases Nat.eq_zero_or_pos (cntJ l) with h0 | h0
    · rw [runT_off _ _ _ _ _ _ _ _ _ h0]
      exact hI.done hA h0
    · obtain ⟨u, f0, k, u1, u2, u3, hT, hfst, hpk, hkl, hkj, hT0, hT1, hbd⟩ := step_of (rk := rk0) hA hI.left h0 hI.pos
      rw [ht] at hfst
      rw [runT_on _ _ _ _ _ _ _ _ _ (by omega)]
      have hlen := hI.left.1
      have hisW : ∀ k, k < l.length → isJ l[k]! = true → l[k]! = js[k]! := fun k hk hj => hI.left.is (by omega) hj
      have hcl : ∀ k, k < l.length → isW (tickOf tick l) l[k]! = true → 0 ≤ l[k]!.c ∧ l[k]!.c ≤ 7 := fun k hk hw => by
        rw [hisW k hk (isW_t.1 hw).1]
        have := tick_at' hA (k := k) (by omega)
        omega
      have hp20 : ∀ k, k < l.length → isW (tickOf tick l) l[k]! = true → pr l[k]! ≤ 20 := fun k hk hw => by
        rw [hisW k hk (isW_t.1 hw).1]
        exact hpr k (by omega)
      have hid := tickOf_idem (l := l) tick
      have hF' : FuN (f + 1) (tickOf tick l) l (nTc tick l tc) (nTb tick l tb) (nCr tick l cr) := hF
      have htc' : nTc tick l tc < 8 := by unfold nTc; split <;> omega
      have hc' : ∀ c, c < 8 → 0 ≤ nCr tick l cr c := fun c h8 => by
        unfold nCr
        split
        · exact Int.le_refl _
        · exact hc c h8
      generalize nTc tick l tc = tc' at hF' htc' ⊢
      generalize nTb tick l tb = tb' at hF' ⊢
      generalize nCr tick l cr = cr' at hF' hc' ⊢
      have hcB : ∀ c, c < 8 → 0 ≤ crB gr tc' tb' cr' c := fun c h8 => by
        unfold crB
        split
        · exact hc' c h8
        · unfold setC
          split
          · have := hc' tc' htc'
            have := hg tc' htc'
            omega
          · exact hc' c h8
      unfold stepR
      cases hfc : firstC (tickOf tick l) tc' l with
      | none =>
        refine ih _ _ _ _ _ _ t0 hI (by rw [hid]; exact ht) (Fu.norm (FuN.on hF' hg htc' hcl hp20 (.inl ⟨hfc, rfl⟩)) hid) (nextC_lt _) (fun c h8 => ?_)
        unfold setC
        split
        · exact Int.le_refl _
        · exact hcB c h8
      | some i =>
        obtain ⟨i1, i2, i3⟩ := firstC_some hfc
        simp only
        split
        · rename_i hlt
          exact ih _ _ _ _ _ _ t0 hI (by rw [hid]; exact ht) (Fu.norm (FuN.on hF' hg htc' hcl hp20 (.inr ⟨i, hfc, hlt, rfl⟩)) hid) (nextC_lt _) hcB
        · rename_i hlt
          have hi : i < js.length := by omega
          have hst := hI.step hA hi (by rw [ht]; exact i2)
          rw [ht] at hst
          have hcn : ∀ c, c < 8 → 0 ≤ setC (crB gr tc' tb' cr') tc' (crB gr tc' tb' cr' tc' - pr l[i]!) c := fun c h8 => by
            unfold setC
            split
            · omega
            · exact hcB c h8
          refine ih _ _ _ _ _ _ _ hst rfl (FuN.begin2 hF' hfst i1 (isW_t.1 i2).1 (fun k hk hj => ?_) hcn) htc' hcn
          have h9 := hst.left.is (k := k) (by omega) hj
          rw [h9]
          have := tick_at' hA (k := k) (by omega)
          omega
theorem inTurn_busy {js : List Jb} (hA : areJb js = true) {gr : List Int} {pr : Jb → Int} (hg : ∀ c, c < 8 → 1 ≤ gr.getD c 0 ∧ gr.getD c 0 ≤ 40) (hpr : ∀ k, k < js.length → pr js[k]! ≤ 20) : Sch js (inTurnOf pr js gr) ∧ busyP js (inTurnOf pr js gr) :=
  runT_busy hA hg hpr 4000 0 js _ 7 false _ 0 (RunI.start hA) rfl (Fu.start js hA) (by omega) (fun _ _ => Int.le_refl _)
end
section
open Go.RowKit
set_option maxRecDepth 100000
set_option linter.unusedVariables false

theorem bestOf_top9 {w : Nat → Bool} {r : Nat → Int} {m b : Nat} (h : bestOf w r m = some b) : ∀ j, j < m → w j = true → r j ≤ r b ∧ (r j = r b → b ≤ j) := by
  induction m generalizing b with
  | zero => intro j hj; omega
  | succ m ih =>
    intro j hj hw
    rw [bestOf] at h
    cases hb : bestOf w r m with
    | none =>
      rw [hb] at h
      have h0 := bestOf_none hb
      by_cases e : j = m
      · subst e
        rw [hw] at h
        injection h with h
        subst h
        exact ⟨Int.le_refl _, fun _ => Nat.le_refl _⟩
      · rw [h0 j (by omega)] at hw; cases hw
    | some c =>
      rw [hb] at h
      simp only at h
      have hc := bestOf_some hb
      have h1 := ih hb
      by_cases e : j = m
      · subst e
        by_cases hlt : r c < r j
        · rw [hw, decide_eq_true hlt] at h
          injection h with h
          subst h
          exact ⟨Int.le_refl _, fun _ => Nat.le_refl _⟩
        · rw [decide_eq_false hlt, Bool.and_false] at h
          injection h with h
          subst h
          exact ⟨by omega, fun _ => by omega⟩
      · have h2 := h1 j (by omega) hw
        cases hq : (w m && decide (r c < r m))
        · rw [hq] at h
          injection h with h
          subst h
          exact h2
        · rw [hq] at h
          injection h with h
          subst h
          have h3 : r c < r m := by
            rw [Bool.and_eq_true] at hq
            exact of_decide_eq_true hq.2
          exact ⟨by omega, fun h9 => by omega⟩
/-- No greater class that has come stands behind. -/
def NoOv (js l : List Jb) (out : List Int) : Prop := ∀ i k, i < js.length → k < js.length → l[i]! = jbZ → js[i]!.c < js[k]!.c → js[k]!.t ≤ out.getD i 0 → l[k]! = jbZ ∧ out.getD k 0 ≤ out.getD i 0
theorem NoOv.step {js : List Jb} (hA : areJb js = true) {tick : Int} {l : List Jb} {out : List Int} (hI : RunI js tick l out) (h : NoOv js l out) {k : Nat} (hp : pickOf (rkC (tickOf tick l)) (tickOf tick l) l = some k) (hT : tick ≤ tickOf tick l) :
    NoOv js (l.set k jbZ) (out.set k (tickOf tick l)) := by
  obtain ⟨k1, k2⟩ := bestOf_some hp
  have htop := bestOf_top9 hp
  have hkj := (isW_t.1 k2).1
  have hk : k < js.length := by rw [← hI.left.1]; exact k1
  have hko : k < out.length := by rw [hI.lout]; exact hk
  have hkk := hI.left.is hk hkj
  generalize hTT : tickOf tick l = T at hT htop k2 ⊢
  intro i j hi hj hz hc ht
  rw [getD_set' out k i T hko] at ht ⊢
  rw [getD_set' out k j T hko]
  rw [set_get l k jbZ i k1] at hz
  rw [set_get l k jbZ j k1]
  by_cases e : i = k
  · subst e
    rw [if_pos rfl] at ht ⊢
    have hne : j ≠ i := fun h9 => by subst h9; omega
    rw [if_neg hne, if_neg hne]
    rcases hI.left.2 j hj with h9 | h9
    · exfalso
      have hw : isW T l[j]! = true := by
        rw [isW_t, h9]
        exact ⟨isJ_ok (tick_at' hA hj).2.2.2.2.1, ht⟩
      have h8 := htop j (by rw [hI.left.1]; exact hj) hw
      simp only [rkC] at h8
      rw [h9, hkk] at h8
      omega
    · have := hI.ok j hj h9
      have := (tick_at' hA hj).2.2.2.2.1
      exact ⟨h9, by omega⟩
  · rw [if_neg e] at hz ht ⊢
    obtain ⟨h1, h2⟩ := h i j hi hj hz hc ht
    have hne : j ≠ k := fun h9 => by
      subst h9
      rw [h1] at hkk
      exact jb_ne hA hk hkk.symm
    rw [if_neg hne, if_neg hne]
    exact ⟨h1, h2⟩
theorem NoOv.done {js : List Jb} (hA : areJb js = true) {tick : Int} {l : List Jb} {out : List Int} (hI : RunI js tick l out) (h : NoOv js l out) (h0 : cntJ l = 0) : ∀ i k, i < js.length → k < js.length → js[i]!.c < js[k]!.c → js[k]!.t ≤ out.getD i 0 → out.getD k 0 ≤ out.getD i 0 := fun i k hi hk hc ht => by
  have hz : l[i]! = jbZ := by
    rcases hI.left.2 i hi with h9 | h9
    · have h1 := cntJ_zero h0 i (by rw [hI.left.1]; exact hi)
      rw [h9, isJ_ok (tick_at' hA hi).2.2.2.2.1] at h1
      cases h1
    · exact h9
  exact (h i k hi hk hz hc ht).2
theorem runL_noOv {js : List Jb} (hA : areJb js = true) (f : Nat) (tick : Int) (l : List Jb) (out : List Int) (hI : RunI js tick l out) (h : NoOv js l out) (hf : cntJ l ≤ f) :
    ∀ i k, i < js.length → k < js.length → js[i]!.c < js[k]!.c → js[k]!.t ≤ (runL rkC f tick l out).getD i 0 → (runL rkC f tick l out).getD k 0 ≤ (runL rkC f tick l out).getD i 0 := by
  induction f generalizing tick l out with
  | zero => exact h.done hA hI (by omega)
  | succ f ih =>
    rcases Nat.eq_zero_or_pos (cntJ l) with h0 | h0
    · rw [runL]
      have hnone : pickOf (rkC (tickOf tick l)) (tickOf tick l) l = none := by
        cases hp : pickOf (rkC (tickOf tick l)) (tickOf tick l) l with
        | none => rfl
        | some k =>
          obtain ⟨k1, k2⟩ := bestOf_some hp
          have := cntJ_zero h0 k k1
          rw [(isW_t.1 k2).1] at this; cases this
      rw [hnone]
      exact h.done hA hI h0
    · obtain ⟨u, f0, k, u1, u2, u3, hT, hfst, hpk, hkl, hkj, hT0, hT1, hbd⟩ := step_of (rk := rkC) hA hI.left h0 hI.pos
      rw [runL_step hpk]
      have hk : k < js.length := by rw [← hI.left.1]; exact hkl
      have hc := cntJ_set hkl hkj
      exact ih _ _ _ (hI.step hA hk (bestOf_some hpk).2) (h.step hA hI hpk hT1.1) (by omega)
theorem strict_over {js : List Jb} (hA : areJb js = true) : overL js (startsOf rkC js) (startsOf rkC js).length = 0 := by
  have key := runL_noOv hA js.length 0 js (List.replicate js.length 0) (RunI.start hA) (fun i k hi hk hz => absurd hz (jb_ne hA hi)) (cntJ_le js)
  have key : ∀ i k, i < js.length → k < js.length → js[i]!.c < js[k]!.c → js[k]!.t ≤ (startsOf rkC js).getD i 0 → (startsOf rkC js).getD k 0 ≤ (startsOf rkC js).getD i 0 := key
  have hlen := startsOf_len rkC js
  have hrow : ∀ i, i < js.length → ∀ k, k ≤ js.length → overRow js (startsOf rkC js) i k = 0 := by
    intro i hi k
    induction k with
    | zero => intro _; rfl
    | succ k ih =>
      intro hk
      rw [overRow, ih (by omega), if_neg]
      · rfl
      · intro h
        simp only [over, Bool.and_eq_true, decide_eq_true_eq] at h
        have := key i k hi (by omega) h.1 h.2.1
        omega
  have hall : ∀ i, i ≤ js.length → overL js (startsOf rkC js) i = 0 := by
    intro i
    induction i with
    | zero => intro _; rfl
    | succ i ih =>
      intro hi
      rw [overL, ih (by omega), hlen, hrow i (by omega) js.length (Nat.le_refl _)]
      rfl
  rw [hlen]
  exact hall _ (Nat.le_refl _)
def tlO (js : List Jb) : Nat → Int
  | 0 => 0
  | m + 1 => tlO js m + js[m]!.t * js[m]!.l
theorem weigh_slO (js : List Jb) (ss : List Int) (m : Nat) : weighL js ss m + tlO js m = slW js ss m := by
  induction m with
  | zero => rfl
  | succ m ih =>
    rw [weighL, tlO, slW, ← ih, Int.sub_mul]
    omega
/-- Whatever is a busy schedule of the jobs. -/
theorem busy_ok {js : List Jb} {X : List Int} (hA : areJb js = true) (hl : X.length = js.length) (hS : Sch js X) (hb : busyP js X) :
    isBusyOf js X = (true, true) ∧ weighted js X = (weighL js (fifo js) js.length, true) ∧ schd js X = true := by
  have hfb := (busy_iff hA hS).1 hb
  have hn := (areJb_in hA).1
  have hok : okAll 0 5000 X = true := okAll_of fun j hj => by
    rw [hl] at hj
    refine ⟨hS.zero j hj, ?_⟩
    have h1 : heldB js X (X.getD j 0) js.length = true := heldB_t.2 ⟨j, hj, Int.le_refl _, by have := hS.pos j hj; omega⟩
    rw [hfb] at h1
    obtain ⟨i, i1, i2, i3⟩ := heldB_t.1 h1
    have h2 := (Sch.fifo hA).pos i i1
    have h3 := tick_at' hA i1
    have h4 := (givenB_in (fifo_given hA)).2.2.1 i (by rw [fifo_len]; exact i1)
    rw [fifo_at js i i1] at i3
    have h5 := fS_bd hA i i1
    omega
  have hg : givenB js X = true := by simp [givenB, hA, hl, hok]
  have hs : schedB js X = true := by
    rw [schedB_t]
    intro i hi
    rw [hl] at hi
    refine ⟨hS.tick i hi, fun k hk hh => ?_⟩
    have := hS.apart i k hi (by omega) (by omega)
    omega
  have hsd : schd js X = true := by simp [schd, hg, hs]
  have hbb := (busyB_t hg hs).2 hb
  refine ⟨by simp [isBusyOf, hg, hs, hbb], ?_, hsd⟩
  have h5 := busy_same hA hS (Sch.fifo hA) hb (fifo_busy hA)
  have h6 := weigh_slO js X js.length
  have h7 := weigh_slO js (fifo js) js.length
  have e : weighL js X X.length = weighL js (fifo js) js.length := by rw [hl]; omega
  simp only [weighted, hsd, if_true, e]
/-- What the law asks of one line's orders. -/
structure OoF (js : List Jb) (Fi St A Tn Df : List Int) (wt : Int) : Prop where
  n20 : js.length ≤ 20
  lens : (Fi.length = js.length ∧ Fi.length ≤ 1048576) ∧ St.length ≤ 1048576 ∧ A.length ≤ 1048576 ∧ Tn.length ≤ 1048576 ∧ Df.length ≤ 1048576
  strict : overtaken js St = (0, true)
  aged : agedOf js 100 = (A, true)
  turn : turnOf js [1, 2, 3, 1, 2, 3, 1, 2] = (Tn, true)
  defi : defOf js [5, 4, 3, 2, 1, 5, 4, 3] = (Df, true)
  b0 : isBusyOf js Fi = (true, true) ∧ weighted js Fi = (wt, true)
  b1 : isBusyOf js St = (true, true) ∧ weighted js St = (wt, true)
  b2 : isBusyOf js A = (true, true) ∧ weighted js A = (wt, true)
  b3 : isBusyOf js Tn = (true, true) ∧ weighted js Tn = (wt, true)
  b4 : isBusyOf js Df = (true, true) ∧ weighted js Df = (wt, true)
  start : ∀ i, i < js.length → 0 ≤ Fi.getD i 0 ∧ Fi.getD i 0 ≤ 5000
  job : ∀ i, i < js.length → 1 ≤ js[i]!.l ∧ js[i]!.l ≤ 20
  chain : ∀ i, i + 1 < js.length → Fi.getD i 0 + js[i]!.l ≤ Fi.getD (i + 1) 0
theorem ooF_of {js : List Jb} (hA : areJb js = true) : ∃ A Tn Df wt, OoF js (startsOf rk0 js) (startsOf rkC js) A Tn Df wt := by
  have hn := (areJb_in hA).1
  have hpr1 : ∀ k, k < js.length → pr1 js[k]! ≤ 20 := fun k hk => by simp [pr1]
  have hprL : ∀ k, k < js.length → prL js[k]! ≤ 20 := fun k hk => (tick_at' hA hk).2.2.2.2.2
  have hg1 : ∀ c, c < 8 → 1 ≤ ([1, 2, 3, 1, 2, 3, 1, 2] : List Int).getD c 0 ∧ ([1, 2, 3, 1, 2, 3, 1, 2] : List Int).getD c 0 ≤ 40 := by decide
  have hg2 : ∀ c, c < 8 → 1 ≤ ([5, 4, 3, 2, 1, 5, 4, 3] : List Int).getD c 0 ∧ ([5, 4, 3, 2, 1, 5, 4, 3] : List Int).getD c 0 ≤ 40 := by decide
  have s0 := startsOf_busy hA rk0
  have s1 := startsOf_busy hA rkC
  have s2 := startsOf_busy hA (rkA 100)
  have s3 := inTurn_busy hA hg1 hpr1
  have s4 := inTurn_busy hA hg2 hprL
  have c0 := busy_ok hA (startsOf_len _ _) s0.1 s0.2
  have c1 := busy_ok hA (startsOf_len _ _) s1.1 s1.2
  have c2 := busy_ok hA (startsOf_len _ _) s2.1 s2.2
  have c3 := busy_ok hA (inTurnOf_len _ _ _) s3.1 s3.2
  have c4 := busy_ok hA (inTurnOf_len _ _ _) s4.1 s4.2
  have e1 : eightB [1, 2, 3, 1, 2, 3, 1, 2] 20 = true := by decide
  have e2 : eightB [5, 4, 3, 2, 1, 5, 4, 3] 40 = true := by decide
  refine ⟨startsOf (rkA 100) js, inTurnOf pr1 js [1, 2, 3, 1, 2, 3, 1, 2], inTurnOf prL js [5, 4, 3, 2, 1, 5, 4, 3], _, hn, ?_, ?_, by simp [agedOf, hA, wi], by simp [turnOf, hA, e1], by simp [defOf, hA, e2], ⟨c0.1, c0.2.1⟩, ⟨c1.1, c1.2.1⟩, ⟨c2.1, c2.2.1⟩, ⟨c3.1, c3.2.1⟩, ⟨c4.1, c4.2.1⟩, ?_, ?_, ?_⟩
  · rw [startsOf_len, startsOf_len, startsOf_len, inTurnOf_len, inTurnOf_len]
    omega
  · simp only [overtaken, c1.2.2, if_true, strict_over hA]
  · intro i hi
    rw [fifo_is hA]
    have h4 := (givenB_in (fifo_given hA)).2.2.1 i (by rw [fifo_len]; exact hi)
    exact h4
  · intro i hi
    exact (tick_at' hA hi).2.2.2.2
  · intro i hi
    rw [fifo_is hA, fifo_at js i (by omega), fifo_at js (i + 1) hi]
    have := fS_lt hA (Nat.lt_succ_self i) hi
    exact this
end
end Go.Proofs.Yteoggoopfjkdkaa
