/-
  Plain mathematics of stuffed bits: no dump is imported.
-/
import Derived.Test.YtkmopfgeenadgaaWords
namespace Go.Proofs.Ytkmopfgeenadgaa
open Go.RowKit

/-- One bit is stuffed: what is out, and how many ones stand at its end. -/
def stfStep (s : List Int × Nat) (x : Int) : List Int × Nat :=
  if x = 0 then (s.1 ++ [x], 0) else if s.2 = 4 then (s.1 ++ [x] ++ [0], 0) else (s.1 ++ [x], s.2 + 1)
def stf (l : List Int) : List Int × Nat := l.foldl stfStep ([], 0)
theorem stf_snoc (l : List Int) (k : Nat) (hk : k < l.length) : stf (l.take (k + 1)) = stfStep (stf (l.take k)) (l.getD k 0) := by
  have hg : l.getD k 0 = l[k] := by simp [hk]
  rw [List.take_succ_eq_append_getElem hk, hg]
  unfold stf
  rw [List.foldl_append, List.foldl_cons, List.foldl_nil]
theorem stfStep_bd (s : List Int × Nat) (x : Int) (h : s.2 ≤ 4) : (stfStep s x).2 ≤ 4 ∧ (stfStep s x).1.length ≤ s.1.length + 2 := by
  unfold stfStep
  split
  · simp
  · split
    · simp
    · simp; omega
theorem stf_bd (l : List Int) (k : Nat) (hk : k ≤ l.length) : (stf (l.take k)).2 ≤ 4 ∧ (stf (l.take k)).1.length ≤ 2 * k := by
  induction k with
  | zero => simp [stf]
  | succ k ih =>
    have := ih (by omega)
    rw [stf_snoc l k (by omega)]
    have h2 := stfStep_bd (stf (l.take k)) (l.getD k 0) this.1
    omega
/-- What StuffBits says, the bits being bits. -/
def stuffOf (l : List Int) : List Int := (stf l).1
theorem stuffOf_len (l : List Int) : (stuffOf l).length ≤ 2 * l.length := by
  have := (stf_bd l l.length (Nat.le_refl _)).2
  rw [List.take_length] at this
  exact this

/-- One bit is taken back. -/
def unStep (s : Option (List Int × Nat)) (x : Int) : Option (List Int × Nat) :=
  match s with
  | none => none
  | some (o, n) => if n = 5 then (if x = 0 then some (o, 0) else none) else some (o ++ [x], if x = 0 then 0 else n + 1)
def un (l : List Int) : Option (List Int × Nat) := l.foldl unStep (some ([], 0))
theorem un_snoc (l : List Int) (k : Nat) (hk : k < l.length) : un (l.take (k + 1)) = unStep (un (l.take k)) (l.getD k 0) := by
  have hg : l.getD k 0 = l[k] := by simp [hk]
  rw [List.take_succ_eq_append_getElem hk, hg]
  unfold un
  rw [List.foldl_append, List.foldl_cons, List.foldl_nil]
theorem unStep_none (l : List Int) : l.foldl unStep none = none := by
  induction l with
  | nil => rfl
  | cons x l ih => rw [List.foldl_cons]; exact ih
theorem un_none (l : List Int) (k : Nat) (h : un (l.take k) = none) : un l = none := by
  unfold un at h ⊢
  rw [← List.take_append_drop k l, List.foldl_append, h]
  exact unStep_none _
theorem unStep_bd (o : List Int) (n : Nat) (x : Int) (o' : List Int) (n' : Nat) (hn : n ≤ 5) (h : unStep (some (o, n)) x = some (o', n')) : n' ≤ 5 ∧ o'.length ≤ o.length + 1 := by
  unfold unStep at h
  simp only at h
  by_cases h5 : n = 5
  · rw [if_pos h5] at h
    by_cases hx : x = 0
    · rw [if_pos hx] at h; injection h with h; injection h with h1 h2; subst h1; subst h2; omega
    · rw [if_neg hx] at h; cases h
  · rw [if_neg h5] at h
    injection h with h; injection h with h1 h2; subst h1
    by_cases hx : x = 0
    · rw [if_pos hx] at h2; subst h2; simp
    · rw [if_neg hx] at h2; subst h2; simp; omega
theorem un_bd (l : List Int) (k : Nat) (hk : k ≤ l.length) (o : List Int) (n : Nat) (h : un (l.take k) = some (o, n)) : n ≤ 5 ∧ o.length ≤ k := by
  induction k generalizing o n with
  | zero => simp [un] at h; obtain ⟨rfl, rfl⟩ := h; simp
  | succ k ih =>
    rw [un_snoc l k (by omega)] at h
    cases hu : un (l.take k) with
    | none => rw [hu] at h; cases h
    | some s =>
      obtain ⟨o0, n0⟩ := s
      rw [hu] at h
      have h0 := ih (by omega) o0 n0 hu
      have := unStep_bd o0 n0 _ o n h0.1 h
      omega
/-- What UnstuffBits says, the bits being bits. -/
def unOf (l : List Int) : List Int × Bool :=
  match un l with
  | none => ([], false)
  | some (o, n) => if n = 5 then ([], false) else (o, true)
theorem unOf_none {l : List Int} (h : un l = none) : unOf l = ([], false) := by unfold unOf; rw [h]
theorem unOf_five {l o : List Int} (h : un l = some (o, 5)) : unOf l = ([], false) := by unfold unOf; rw [h]; rfl
theorem unOf_yes {l o : List Int} {n : Nat} (h : un l = some (o, n)) (hn : n ≠ 5) : unOf l = (o, true) := by unfold unOf; rw [h]; exact if_neg hn
theorem unOf_len (l : List Int) : (unOf l).1.length ≤ l.length := by
  cases h : un l with
  | none => rw [unOf_none h]; simp
  | some s =>
    obtain ⟨o, n⟩ := s
    have hb := un_bd l l.length (Nat.le_refl _) o n (by rw [List.take_length]; exact h)
    by_cases h5 : n = 5
    · subst h5; rw [unOf_five h]; simp
    · rw [unOf_yes h h5]; exact hb.2
end Go.Proofs.Ytkmopfgeenadgaa
