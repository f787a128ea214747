/-
  Slots that go round: within a tick, station by station; what the links hold.
-/
import Derived.Test.YtehmhkbiofndaaaMathWl
namespace Go.Proofs.Ytehmhkbiofndaaa
open Go.RowKit
set_option maxRecDepth 100000
set_option linter.unusedVariables false

/-- The station before. -/
def Sw.pred (x : Sw) (j : Nat) : Nat := (j + x.n - 1) % x.n
theorem Sw.pred_succ {x : Sw} (h : x.Ok) {s : Nat} (hs : s < x.n) : x.pred ((s + 1) % x.n) = s := by
  have hn := h.n2
  unfold Sw.pred
  rcases Nat.lt_or_ge (s + 1) x.n with h1 | h1
  · rw [Nat.mod_eq_of_lt h1, show s + 1 + x.n - 1 = s + x.n by omega, Nat.add_mod_right, Nat.mod_eq_of_lt hs]
  · rw [show s + 1 = x.n by omega, Nat.mod_self, Nat.mod_eq_of_lt (by omega)]; omega
theorem Sw.pred_lt {x : Sw} (h : x.Ok) (j : Nat) : x.pred j < x.n := Nat.mod_lt _ (by have := h.n2; omega)
theorem Sw.pred_ne {x : Sw} (h : x.Ok) {j : Nat} (hj : j < x.n) : x.pred j ≠ j := by
  have hn := h.n2
  unfold Sw.pred
  rcases Nat.eq_zero_or_pos j with rfl | h1
  · rw [Nat.mod_eq_of_lt (by omega)]; omega
  · rw [show j + x.n - 1 = (j - 1) + x.n by omega, Nat.add_mod_right, Nat.mod_eq_of_lt (by omega)]; omega
theorem Sw.pred_inj {x : Sw} (h : x.Ok) {j s : Nat} (hj : j < x.n) (hs : s < x.n) (e : x.pred j = s) : j = (s + 1) % x.n := by
  have hn := h.n2
  unfold Sw.pred at e
  rcases Nat.eq_zero_or_pos j with rfl | h1
  · rw [Nat.mod_eq_of_lt (by omega)] at e
    rw [show s + 1 = x.n by omega, Nat.mod_self]
  · rw [show j + x.n - 1 = (j - 1) + x.n by omega, Nat.add_mod_right, Nat.mod_eq_of_lt (by omega)] at e
    rw [show s + 1 = j by omega, Nat.mod_eq_of_lt hj]
theorem Sw.kof_pred {x : Sw} (h : x.Ok) {j : Nat} (hj : j < x.n) (t : Nat) : x.kof j (t + 1) = x.kof (x.pred j) t := by
  have hn := h.n2
  have h1 : x.kof (x.pred j) t < x.n := Sw.kof_lt h _ _
  have h2 := Sw.at_kof h (x.pred j) t (Sw.pred_lt h j)
  have h3 : (x.kof (x.pred j) t + (t + 1)) % x.n = j := by
    rw [← Nat.add_assoc, Nat.add_mod, h2, Nat.mod_eq_of_lt (show 1 < x.n by omega)]
    unfold Sw.pred
    rcases Nat.eq_zero_or_pos j with rfl | h4
    · rw [Nat.mod_eq_of_lt (show 0 + x.n - 1 < x.n by omega), show 0 + x.n - 1 + 1 = x.n by omega, Nat.mod_self]
    · rw [show j + x.n - 1 = (j - 1) + x.n by omega, Nat.add_mod_right, Nat.mod_eq_of_lt (show j - 1 < x.n by omega), show j - 1 + 1 = j by omega, Nat.mod_eq_of_lt hj]
  have h4 := Sw.kof_at h (x.kof (x.pred j) t) (t + 1) h1
  rw [h3] at h4
  exact h4
/-- What is at a station at a tick. -/
def Sw.old (x : Sw) (t j : Nat) : Nat := x.S t (x.kof j t)
/-- What it makes of it. -/
def Sw.new (x : Sw) (t j : Nat) : Nat := x.newc (x.F t) j t (x.old t j)
/-- The ticks of filling, when the stations below s have had theirs. -/
def Sw.Fp (x : Sw) (t s : Nat) : Nat → Int := fun i => if x.fr i < s then x.F (t + 1) i else x.F t i
/-- What the links hold then. -/
def Sw.q (x : Sw) (t s j : Nat) : List Nat := (if j < s then [] else [x.old t j]) ++ (if x.pred j < s then [x.new t (x.pred j)] else [])
theorem Sw.next_Fp {x : Sw} (t s : Nat) : x.next (x.Fp t s) s t = x.next (x.F t) s t := Sw.next_congr fun i _ hi => by unfold Sw.Fp; rw [if_neg (by omega)]
theorem Sw.fills_Fp {x : Sw} (t s c : Nat) : x.fills (x.Fp t s) s t c = x.fills (x.F t) s t c := by unfold Sw.fills; rw [Sw.next_Fp]
theorem Sw.newc_Fp {x : Sw} (t s c : Nat) : x.newc (x.Fp t s) s t c = x.newc (x.F t) s t c := by unfold Sw.newc; rw [Sw.fills_Fp]
theorem Sw.Fp_some {x : Sw} {t s i : Nat} (h : x.fills (x.F t) s t (x.old t s) = some i) (j : Nat) : (if j = i then (t : Int) else x.Fp t s j) = x.Fp t (s + 1) j := by
  have h1 := Sw.next_some (Sw.fills_some h)
  have key : ∀ j, x.fr j = s → x.F (t + 1) j = if x.fills (x.F t) s t (x.old t s) = some j then (t : Int) else x.F t j := by
    intro j hj
    show x.tickF t (x.S t) (x.F t) j = _
    unfold Sw.tickF Sw.old
    rw [hj]
  unfold Sw.Fp
  by_cases e : j = i
  · subst e
    rw [if_pos rfl, if_pos (by omega), key j h1.2.1, if_pos h]
  · rw [if_neg e]
    by_cases e2 : x.fr j = s
    · have e3 : ¬ some i = some j := fun h => e (Option.some.inj h).symm
      rw [if_neg (by omega), if_pos (by omega), key j e2, h, if_neg e3]
    · by_cases e3 : x.fr j < s
      · rw [if_pos e3, if_pos (by omega)]
      · rw [if_neg e3, if_neg (by omega)]
theorem Sw.Fp_none {x : Sw} {t s : Nat} (h : x.fills (x.F t) s t (x.old t s) = none) (j : Nat) : x.Fp t s j = x.Fp t (s + 1) j := by
  unfold Sw.Fp
  by_cases e2 : x.fr j = s
  · rw [if_neg (by omega), if_pos (by omega)]
    show _ = x.tickF t (x.S t) (x.F t) j
    unfold Sw.tickF
    rw [e2]
    unfold Sw.old at h
    rw [h, if_neg (by simp)]
  · by_cases e3 : x.fr j < s
    · rw [if_pos e3, if_pos (by omega)]
    · rw [if_neg e3, if_neg (by omega)]
theorem Sw.Fp_zero {x : Sw} (t : Nat) : x.Fp t 0 = x.F t := by funext i; unfold Sw.Fp; rw [if_neg (by omega)]
theorem Sw.Fp_all {x : Sw} (h : x.Ok) (t : Nat) (i : Nat) (hi : i < x.len) : x.Fp t x.n i = x.F (t + 1) i := by unfold Sw.Fp; rw [if_pos (h.frn i hi)]
theorem Sw.q_zero {x : Sw} (t j : Nat) : x.q t 0 j = [x.old t j] := by unfold Sw.q; rw [if_neg (by omega), if_neg (by omega)]; rfl
theorem Sw.q_all {x : Sw} (h : x.Ok) (t : Nat) {j : Nat} (hj : j < x.n) : x.q t x.n j = x.q (t + 1) 0 j := by
  rw [Sw.q_zero]
  unfold Sw.q
  rw [if_pos hj, if_pos (Sw.pred_lt h j), List.nil_append]
  congr 1
  unfold Sw.old
  rw [Sw.kof_pred h hj]
  show _ = x.tickS t (x.S t) (x.F t) (x.kof (x.pred j) t)
  unfold Sw.tickS Sw.new Sw.old
  rw [Sw.at_kof h _ _ (Sw.pred_lt h j)]
/-- The link of station s when it has received. -/
theorem Sw.q_recv {x : Sw} (h : x.Ok) {t s : Nat} (hs : s < x.n) : x.q t s s = x.old t s :: x.q t (s + 1) s := by
  have h1 := Sw.pred_ne h hs
  unfold Sw.q
  rw [if_neg (Nat.lt_irrefl s), if_pos (Nat.lt_succ_self s)]
  by_cases e : x.pred s < s
  · rw [if_pos e, if_pos (by omega)]; rfl
  · rw [if_neg e, if_neg (by omega)]; rfl
theorem Sw.q_send {x : Sw} (h : x.Ok) {t s : Nat} (hs : s < x.n) : x.q t (s + 1) ((s + 1) % x.n) = x.q t s ((s + 1) % x.n) ++ [x.new t s] ∧ (x.q t s ((s + 1) % x.n)).length ≤ 1 := by
  have h1 := Sw.pred_succ h hs
  have hb : (s + 1) % x.n < x.n := Nat.mod_lt _ (by omega)
  have h2 := Sw.pred_ne h hb
  rw [h1] at h2
  unfold Sw.q
  rw [h1, if_neg (Nat.lt_irrefl s), if_pos (Nat.lt_succ_self s)]
  have e : ((s + 1) % x.n < s + 1) ↔ ((s + 1) % x.n < s) := by omega
  refine ⟨?_, ?_⟩
  · by_cases e2 : (s + 1) % x.n < s
    · rw [if_pos (e.2 e2), if_pos e2]; rfl
    · rw [if_neg (fun h => e2 (e.1 h)), if_neg e2]; rfl
  · split <;> simp
theorem Sw.q_other {x : Sw} (h : x.Ok) {t s j : Nat} (hs : s < x.n) (hj : j < x.n) (h1 : j ≠ s) (h2 : j ≠ (s + 1) % x.n) : x.q t (s + 1) j = x.q t s j := by
  have h3 : x.pred j ≠ s := fun e => h2 (Sw.pred_inj h hj hs e)
  unfold Sw.q
  have e1 : (j < s + 1) ↔ (j < s) := by omega
  have e2 : (x.pred j < s + 1) ↔ (x.pred j < s) := by omega
  simp only [e1, e2]
theorem Sw.succ_ne {x : Sw} (h : x.Ok) {s : Nat} (hs : s < x.n) : (s + 1) % x.n ≠ s := by
  have := Sw.pred_ne h (Nat.mod_lt (s + 1) (show 0 < x.n by omega))
  rw [Sw.pred_succ h hs] at this
  exact fun e => this e.symm
theorem Sw.old_le {x : Sw} (h : x.Ok) (t j : Nat) : x.old t j ≤ x.len := by
  unfold Sw.old
  by_cases e : x.S t (x.kof j t) = 0
  · omega
  · obtain ⟨i, f, h1, h2, _⟩ := (Sw.inv_run h t).slot _ (Sw.kof_lt h j t) e
    have h1' : x.S t (x.kof j t) = i + 1 := h1
    omega
end Go.Proofs.Ytehmhkbiofndaaa
