/-
  Slots that go round: within a tick, slot by slot; what is read.
-/
import Derived.Test.YtehmhkbiofndaaaMathWm
namespace Go.Proofs.Ytehmhkbiofndaaa
open Go.RowKit
set_option maxRecDepth 100000
set_option linter.unusedVariables false

/-- The ticks at which messages are read, behind t ticks. -/
def Sw.Rd (x : Sw) (t : Nat) : Nat → Int := fun i => if 0 ≤ x.F t i ∧ x.F t i + (x.hop i : Int) < t then x.F t i + (x.hop i : Int) else -1
/-- Within the tick t, when the slots below k have had theirs. -/
def Sw.Sk (x : Sw) (t k : Nat) : Nat → Nat := fun j => if j < k then x.S (t + 1) j else x.S t j
def Sw.Fk (x : Sw) (t k : Nat) : Nat → Int := fun i => if x.kof (x.fr i) t < k then x.F (t + 1) i else x.F t i
def Sw.Rk (x : Sw) (t k : Nat) : Nat → Int := fun i => if 0 ≤ x.F t i ∧ x.F t i + (x.hop i : Int) = t ∧ ¬ x.kof (x.fr i) (x.F t i).toNat < k then -1 else x.Rd (t + 1) i
theorem Sw.Sk_zero {x : Sw} (t : Nat) : x.Sk t 0 = x.S t := by funext j; unfold Sw.Sk; rw [if_neg (by omega)]
theorem Sw.Sk_all {x : Sw} (t j : Nat) (hj : j < x.n) : x.Sk t x.n j = x.S (t + 1) j := by unfold Sw.Sk; rw [if_pos hj]
theorem Sw.Fk_zero {x : Sw} (t : Nat) : x.Fk t 0 = x.F t := by funext j; unfold Sw.Fk; rw [if_neg (by omega)]
theorem Sw.Fk_all {x : Sw} (h : x.Ok) (t i : Nat) : x.Fk t x.n i = x.F (t + 1) i := by unfold Sw.Fk; rw [if_pos (Sw.kof_lt h _ _)]
theorem Sw.Rk_zero {x : Sw} (h : x.Ok) (t i : Nat) (hi : i < x.len) : x.Rk t 0 i = x.Rd t i := by
  have hp := Sw.hop_in h hi
  unfold Sw.Rk Sw.Rd
  rcases Int.lt_or_le (x.F t i) 0 with h1 | h1
  · rw [if_neg (by omega), if_neg (by omega : ¬ (0 ≤ x.F t i ∧ x.F t i + (x.hop i : Int) < t))]
    rcases Sw.F_new (x := x) t i with h2 | h2
    · rw [h2, if_neg (by omega)]
    · rw [h2, if_neg (by push_cast; omega)]
  · have h2 := Sw.F_keep t i h1
    rw [h2]
    by_cases e : x.F t i + (x.hop i : Int) = t
    · rw [if_pos ⟨h1, e, by omega⟩, if_neg (by omega)]
    · rw [if_neg (fun h => e h.2.1)]
      by_cases e2 : x.F t i + (x.hop i : Int) < t
      · rw [if_pos ⟨h1, by push_cast; omega⟩, if_pos ⟨h1, e2⟩]
      · rw [if_neg (by push_cast; omega), if_neg (fun h => e2 h.2)]
theorem Sw.Rk_all {x : Sw} (h : x.Ok) (t i : Nat) : x.Rk t x.n i = x.Rd (t + 1) i := by
  unfold Sw.Rk
  rw [if_neg]
  rintro ⟨_, _, h3⟩
  exact h3 (Sw.kof_lt h _ _)
theorem Sw.next_Fk {x : Sw} (h : x.Ok) {t k : Nat} (hk : k < x.n) : x.next (x.Fk t k) ((k + t) % x.n) t = x.next (x.F t) ((k + t) % x.n) t := Sw.next_congr fun i _ hi => by
  unfold Sw.Fk
  rw [hi, Sw.kof_at h k t hk, if_neg (by omega)]
/-- What is the case with a slot at its tick. -/
structure Sw.Held (x : Sw) (t k i : Nat) : Prop where
  lt : i < x.len
  read : (x.to_ i = (k + t) % x.n ↔ x.Rk t k i = -1 ∧ x.to_ i = (k + t) % x.n)
  home : (x.fr i = (k + t) % x.n → 0 ≤ x.Rk t (k + 1) i)
  set : x.to_ i = (k + t) % x.n → x.Rk t (k + 1) i = t
  keep : x.to_ i ≠ (k + t) % x.n → x.Rk t (k + 1) i = x.Rk t k i
theorem Sw.Rk_other {x : Sw} (h : x.Ok) {t k i : Nat} (hk : k < x.n) (hi : i < x.len) (hne : x.S t k ≠ i + 1) : x.Rk t (k + 1) i = x.Rk t k i := by
  have hp := Sw.hop_in h hi
  have hd := Sw.dur_in h hi
  unfold Sw.Rk
  by_cases h1 : 0 ≤ x.F t i ∧ x.F t i + (x.hop i : Int) = t
  · have h2 : x.kof (x.fr i) (x.F t i).toNat ≠ k := by
      intro e
      have h3 := (Sw.inv_run h t).holds i (x.F t i).toNat hi (by show x.F t i = _; omega) (by omega)
      rw [e] at h3
      exact hne h3
    have e3 : (x.kof (x.fr i) (x.F t i).toNat < k + 1) ↔ (x.kof (x.fr i) (x.F t i).toNat < k) := by omega
    simp only [e3]
  · rw [if_neg (fun h => h1 ⟨h.1, h.2.1⟩), if_neg (fun h => h1 ⟨h.1, h.2.1⟩)]
theorem Sw.held {x : Sw} (h : x.Ok) {t k i : Nat} (hk : k < x.n) (hs : x.S t k = i + 1) : x.Held t k i := by
  obtain ⟨i', f, h1, h2, h3, h4, h5, h6⟩ := (Sw.inv_run h t).slot k hk (by show x.S t k ≠ 0; omega)
  have h1' : x.S t k = i' + 1 := h1
  obtain rfl : i = i' := by omega
  have h3' : x.F t i = (f : Int) := h3
  have hp := Sw.hop_in h h2
  have hd := Sw.dur_in h h2
  obtain ⟨d, hd1⟩ : ∃ d, t = f + d := ⟨t - f, by omega⟩
  have hat := Sw.at_of h (x.fr i) f d
  rw [h6, ← hd1] at hat
  have hto := Sw.at_to h h2 (d := d) (by omega) (by omega)
  have hho := Sw.at_home h h2 (d := d) (by omega) (by omega)
  rw [← hat] at hto hho
  have hF' := Sw.F_keep (x := x) t i (by omega)
  have hkof : x.kof (x.fr i) (x.F t i).toNat = k := by rw [h3']; simpa using h6
  have rk1 : x.Rk t (k + 1) i = x.Rd (t + 1) i := by
    unfold Sw.Rk
    rw [if_neg]
    rintro ⟨_, _, h9⟩
    omega
  have rd1 : x.Rd (t + 1) i = if d < x.hop i then -1 else (f : Int) + (x.hop i : Int) := by
    unfold Sw.Rd
    rw [hF', h3']
    by_cases e : d < x.hop i
    · rw [if_pos e, if_neg (by push_cast; omega)]
    · rw [if_neg e, if_pos (by push_cast; omega)]
  have rk0 : x.Rk t k i = if d = x.hop i then -1 else x.Rd (t + 1) i := by
    unfold Sw.Rk
    rw [hkof, h3']
    by_cases e : d = x.hop i
    · rw [if_pos e, if_pos (by omega)]
    · rw [if_neg e, if_neg (by omega)]
  refine ⟨h2, ?_, ?_, ?_, ?_⟩
  · constructor
    · intro e
      refine ⟨?_, e⟩
      rw [rk0, if_pos (hto.1 e.symm)]
    · exact fun h => h.2
  · intro e
    have e1 := hho.1 e.symm
    rw [rk1, rd1, if_neg (by omega)]
    omega
  · intro e
    have e1 := hto.1 e.symm
    rw [rk1, rd1, if_neg (by omega)]
    omega
  · intro e
    have e1 : d ≠ x.hop i := fun e2 => e (hto.2 e2).symm
    rw [rk1, rk0, if_neg e1]
/-- Behind the slot k. -/
theorem Sw.Sk_succ {x : Sw} (t k j : Nat) : x.Sk t (k + 1) j = if j = k then x.S (t + 1) k else x.Sk t k j := by
  unfold Sw.Sk
  by_cases e : j = k
  · subst e; rw [if_pos (by omega), if_pos rfl]
  · rw [if_neg e]
    have e2 : (j < k + 1) ↔ (j < k) := by omega
    simp only [e2]
theorem Sw.S_new {x : Sw} (t k : Nat) : x.S (t + 1) k = x.newc (x.F t) ((k + t) % x.n) t (x.S t k) := rfl
theorem Sw.Fk_some {x : Sw} (h : x.Ok) {t k i : Nat} (hk : k < x.n) (hf : x.fills (x.F t) ((k + t) % x.n) t (x.S t k) = some i) (j : Nat) (hj : j < x.len) : x.Fk t (k + 1) j = if j = i then (t : Int) else x.Fk t k j := by
  have h1 := Sw.next_some (Sw.fills_some hf)
  have hki : x.kof (x.fr i) t = k := by rw [h1.2.1]; exact Sw.kof_at h k t hk
  unfold Sw.Fk
  by_cases e : j = i
  · subst e
    rw [if_pos rfl, hki, if_pos (Nat.lt_succ_self k)]
    show x.tickF t (x.S t) (x.F t) j = _
    unfold Sw.tickF
    rw [hki, h1.2.1, if_pos hf]
  · rw [if_neg e]
    by_cases e2 : x.kof (x.fr j) t = k
    · have e3 : x.fr j = (k + t) % x.n := by rw [← e2]; exact (Sw.at_kof h (x.fr j) t (h.frn j hj)).symm
      rw [e2, if_pos (Nat.lt_succ_self k), if_neg (Nat.lt_irrefl k)]
      show x.tickF t (x.S t) (x.F t) j = _
      unfold Sw.tickF
      rw [e2, e3, hf, if_neg (fun h => e (Option.some.inj h).symm)]
    · have e4 : (x.kof (x.fr j) t < k + 1) ↔ (x.kof (x.fr j) t < k) := by omega
      simp only [e4]
theorem Sw.Fk_none {x : Sw} (h : x.Ok) {t k : Nat} (hk : k < x.n) (hf : x.fills (x.F t) ((k + t) % x.n) t (x.S t k) = none) (j : Nat) (hj : j < x.len) : x.Fk t (k + 1) j = x.Fk t k j := by
  unfold Sw.Fk
  by_cases e2 : x.kof (x.fr j) t = k
  · have e3 : x.fr j = (k + t) % x.n := by rw [← e2]; exact (Sw.at_kof h (x.fr j) t (h.frn j hj)).symm
    rw [e2, if_pos (Nat.lt_succ_self k), if_neg (Nat.lt_irrefl k)]
    show x.tickF t (x.S t) (x.F t) j = _
    unfold Sw.tickF
    rw [e2, e3, hf, if_neg (by simp)]
  · have e4 : (x.kof (x.fr j) t < k + 1) ↔ (x.kof (x.fr j) t < k) := by omega
    simp only [e4]
end Go.Proofs.Ytehmhkbiofndaaa
