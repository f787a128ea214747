/-
  Slots that go round: all messages are filled in time, and what follows.
-/
import Derived.Test.YtehmhkbiofndaaaMathWk
namespace Go.Proofs.Ytehmhkbiofndaaa
open Go.RowKit
set_option maxRecDepth 100000
set_option linter.unusedVariables false

def Sw.F (x : Sw) (t : Nat) : Nat → Int := (x.run t).2
def Sw.S (x : Sw) (t : Nat) : Nat → Nat := (x.run t).1
theorem Sw.F_keep {x : Sw} (t i : Nat) (h0 : 0 ≤ x.F t i) : x.F (t + 1) i = x.F t i := by
  show x.tickF t (x.S t) (x.F t) i = _
  unfold Sw.tickF
  rw [if_neg]
  intro e
  have := (Sw.next_some (Sw.fills_some e)).2.2.2
  omega
theorem Sw.F_keeps {x : Sw} (t d i : Nat) (h0 : 0 ≤ x.F t i) : x.F (t + d) i = x.F t i := by
  induction d with
  | zero => rfl
  | succ d ih => rw [← Nat.add_assoc, Sw.F_keep (t + d) i (by omega), ih]
theorem Sw.F_new {x : Sw} (t i : Nat) : x.F (t + 1) i = x.F t i ∨ x.F (t + 1) i = t := by
  show x.tickF t (x.S t) (x.F t) i = _ ∨ x.tickF t (x.S t) (x.F t) i = _
  unfold Sw.tickF
  split
  · exact .inr rfl
  · exact .inl rfl
/-- How many messages are filled. -/
def cntF (F : Nat → Int) : Nat → Nat
  | 0 => 0
  | i + 1 => cntF F i + if 0 ≤ F i then 1 else 0
theorem cntF_le (F : Nat → Int) (n : Nat) : cntF F n ≤ n := by
  induction n with
  | zero => exact Nat.le_refl _
  | succ n ih => rw [cntF]; split <;> omega
theorem cntF_mono {F G : Nat → Int} {n : Nat} (h : ∀ i, i < n → 0 ≤ F i → 0 ≤ G i) : cntF F n ≤ cntF G n := by
  induction n with
  | zero => exact Nat.le_refl _
  | succ n ih =>
    have h1 := ih fun i hi => h i (by omega)
    have h2 := h n (by omega)
    rw [cntF, cntF]
    split
    · rw [if_pos (h2 (by assumption))]; omega
    · split <;> omega
theorem cntF_lt {F G : Nat → Int} {n : Nat} (h : ∀ i, i < n → 0 ≤ F i → 0 ≤ G i) {j : Nat} (hj : j < n) (h0 : F j < 0) (h1 : 0 ≤ G j) : cntF F n < cntF G n := by
  induction n with
  | zero => omega
  | succ n ih =>
    have h2 := cntF_mono (F := F) (G := G) (n := n) fun i hi => h i (by omega)
    rw [cntF, cntF]
    by_cases e : j = n
    · subst e
      rw [if_neg (by omega), if_pos h1]
      omega
    · have h3 := ih (fun i hi => h i (by omega)) (by omega)
      have h4 := h n (by omega)
      split
      · rw [if_pos (h4 (by assumption))]; omega
      · split <;> omega
theorem cntF_all {F : Nat → Int} {n : Nat} (h : n ≤ cntF F n) : ∀ i, i < n → 0 ≤ F i := by
  induction n with
  | zero => intro i hi; omega
  | succ n ih =>
    rw [cntF] at h
    have h1 := cntF_le F n
    intro i hi
    split at h
    · rename_i h2
      by_cases e : i = n
      · rw [e]; exact h2
      · exact ih (by omega) i (by omega)
    · omega
theorem cntF_of_all {F : Nat → Int} {n : Nat} (h : ∀ i, i < n → 0 ≤ F i) : cntF F n = n := by
  induction n with
  | zero => rfl
  | succ n ih => rw [cntF, ih fun i hi => h i (by omega), if_pos (h n (by omega))]
/-- In n + 1 ticks behind the last coming one message more is filled, while there are such. -/
theorem Sw.more {x : Sw} (h : x.Ok) (L t : Nat) (hL : ∀ i, i < x.len → x.tk i ≤ L) (ht : L ≤ t) (i : Nat) (hi : i < x.len) (h0 : x.F t i < 0) : cntF (x.F t) x.len < cntF (x.F (t + (x.n + 1))) x.len := by
  have mono : ∀ d j, 0 ≤ x.F t j → 0 ≤ x.F (t + d) j := fun d j hj => by rw [Sw.F_keeps t d j hj]; exact hj
  by_cases hex : ∃ j, j < x.len ∧ x.F t j < 0 ∧ 0 ≤ x.F (t + (x.n + 1)) j
  · obtain ⟨j, h1, h2, h3⟩ := hex
    exact cntF_lt (fun k _ => mono (x.n + 1) k) h1 h2 h3
  · exfalso
    have none : ∀ j, j < x.len → x.F t j < 0 → x.F (t + (x.n + 1)) j < 0 := fun j h1 h2 => Int.not_le.1 fun h3 => hex ⟨j, h1, h2, h3⟩
    have none2 : ∀ j, j < x.len → x.F t j < 0 → x.F (t + x.n) j < 0 := fun j h1 h2 => Int.not_le.1 fun h3 => by
      have h4 := Sw.F_keep (t + x.n) j h3
      have h5 := none j h1 h2
      rw [← Nat.add_assoc, h4] at h5
      omega
    have hI := Sw.inv_run h (t + x.n)
    have hI0 := Sw.inv_run h t
    have free : ∀ k, k < x.n → x.S (t + x.n) k = 0 := by
      intro k hk
      apply Classical.byContradiction
      intro hne
      obtain ⟨j, f, a1, a2, a3, a4, a5, a6⟩ := hI.slot k hk hne
      have hd := Sw.dur_in h a2
      rcases Int.lt_or_le (x.F t j) 0 with h7 | h7
      · have := none2 j a2 h7
        have a3' : x.F (t + x.n) j = f := a3
        omega
      · have h8 := Sw.F_keeps t x.n j h7
        have a3' : x.F (t + x.n) j = f := a3
        rcases hI0.filled j a2 with h9 | h9
        · have : x.F t j = -1 := h9
          omega
        · have h9' : x.F t j < t := h9.2
          omega
    have hs := h.frn i hi
    have hk := Sw.kof_lt h (x.fr i) (t + x.n)
    have hfree := free _ hk
    have hfi := none2 i hi h0
    have hnx : ∃ j, x.next (x.F (t + x.n)) (x.fr i) (t + x.n) = some j := by
      cases e : x.next (x.F (t + x.n)) (x.fr i) (t + x.n) with
      | some j => exact ⟨j, rfl⟩
      | none =>
        have := Sw.next_none e i hi rfl (by have := hL i hi; omega)
        omega
    obtain ⟨j, hj⟩ := hnx
    obtain ⟨b1, b2, b3, b4⟩ := Sw.next_some hj
    have hF : x.F (t + x.n + 1) j = (t + x.n : Nat) := by
      show x.tickF (t + x.n) (x.S (t + x.n)) (x.F (t + x.n)) j = _
      unfold Sw.tickF
      rw [b2, hfree, if_pos]
      unfold Sw.fills
      rw [if_pos rfl]
      exact hj
    rcases Int.lt_or_le (x.F t j) 0 with h7 | h7
    · have := none j b1 h7
      rw [← Nat.add_assoc, hF] at this
      omega
    · have := mono x.n j h7
      omega
/-- All are filled. -/
theorem Sw.all_in {x : Sw} (h : x.Ok) (L : Nat) (hL : ∀ i, i < x.len → x.tk i ≤ L) (j : Nat) : j ≤ cntF (x.F (L + j * (x.n + 1))) x.len ∨ ∀ i, i < x.len → 0 ≤ x.F (L + j * (x.n + 1)) i := by
  induction j with
  | zero => exact .inl (Nat.zero_le _)
  | succ j ih =>
    have e : L + (j + 1) * (x.n + 1) = L + j * (x.n + 1) + (x.n + 1) := by rw [Nat.succ_mul]; omega
    rw [e]
    by_cases hall : ∀ i, i < x.len → 0 ≤ x.F (L + j * (x.n + 1)) i
    · right
      intro i hi
      rw [Sw.F_keeps _ _ _ (hall i hi)]
      exact hall i hi
    · left
      rcases ih with h1 | h1
      · have hex : ∃ i, i < x.len ∧ x.F (L + j * (x.n + 1)) i < 0 := by
          apply Classical.byContradiction
          intro hne
          exact hall fun i hi => Int.not_lt.1 fun h2 => hne ⟨i, hi, h2⟩
        obtain ⟨i, hi, h2⟩ := hex
        have := Sw.more h L (L + j * (x.n + 1)) hL (by omega) i hi h2
        omega
      · exact absurd h1 hall
theorem Sw.filled_in {x : Sw} (h : x.Ok) (L : Nat) (hL : ∀ i, i < x.len → x.tk i ≤ L) (i : Nat) (hi : i < x.len) : 0 ≤ x.F (L + x.len * (x.n + 1)) i ∧ x.F (L + x.len * (x.n + 1)) i < (L + x.len * (x.n + 1) : Nat) := by
  have h1 : 0 ≤ x.F (L + x.len * (x.n + 1)) i := by
    rcases Sw.all_in h L hL x.len with h2 | h2
    · exact cntF_all h2 i hi
    · exact h2 i hi
  refine ⟨h1, ?_⟩
  rcases (Sw.inv_run h (L + x.len * (x.n + 1))).filled i hi with h2 | h2
  · have : x.F (L + x.len * (x.n + 1)) i = -1 := h2
    omega
  · exact h2.2
/-- The tick at which a message fills a slot. -/
def Sw.fin (x : Sw) (L : Nat) (i : Nat) : Int := x.F (L + x.len * (x.n + 1)) i
/-- From the last ticks all others are told. -/
theorem Sw.F_of_fin {x : Sw} (h : x.Ok) (L : Nat) (hL : ∀ i, i < x.len → x.tk i ≤ L) (t i : Nat) (hi : i < x.len) : x.F t i = if x.fin L i < t then x.fin L i else -1 := by
  have h1 := Sw.filled_in h L hL i hi
  have hT : ∀ T, (0 ≤ x.F T i → x.F t i = if x.F T i < t then x.F T i else -1) := by
    intro T hT
    rcases (Sw.inv_run h t).filled i hi with h2 | h2
    · have h2' : x.F t i = -1 := h2
      rcases Nat.lt_or_ge t T with h3 | h3
      · split
        · rename_i h4
          -- filled at a tick before t: then it is filled at t
          exfalso
          have key : ∀ d, x.F (t + d) i < 0 ∨ (t : Int) ≤ x.F (t + d) i := by
            intro d
            induction d with
            | zero => left; rw [Nat.add_zero, h2']; omega
            | succ d ih =>
              rw [← Nat.add_assoc]
              rcases Sw.F_new (x := x) (t + d) i with h5 | h5
              · rw [h5]; exact ih
              · right; rw [h5]; omega
          have := key (T - t)
          rw [show t + (T - t) = T by omega] at this
          omega
        · exact h2'
      · have h4 := Sw.F_keeps T (t - T) i hT
        rw [show T + (t - T) = t by omega] at h4
        omega
    · have h2' : 0 ≤ x.F t i ∧ x.F t i < t := ⟨by have : (0 : Int) ≤ x.tk i := Int.natCast_nonneg _; exact Int.le_trans this h2.1, h2.2⟩
      rcases Nat.lt_or_ge T t with h3 | h3
      · have h4 := Sw.F_keeps T (t - T) i hT
        rw [show T + (t - T) = t by omega] at h4
        rw [← h4, if_pos h2'.2]
      · have h4 := Sw.F_keeps t (T - t) i h2'.1
        rw [show t + (T - t) = T by omega] at h4
        rw [h4, if_pos h2'.2]
  exact hT _ h1.1
end Go.Proofs.Ytehmhkbiofndaaa
