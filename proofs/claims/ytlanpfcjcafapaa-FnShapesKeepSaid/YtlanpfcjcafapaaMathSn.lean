/-
  Mathematics of what is sent: levels and backlogs tick by tick, how long it goes on, sums, delays. No dump is imported but for the small words on bounds.
-/
import Derived.Test.YtlanpfcjcafapaaMathSh
namespace Go.Proofs.Ytlanpfcjcafapaa
open Go.RowKit
set_option maxRecDepth 100000
set_option linter.unusedVariables false

/-- The level and the backlog ahead of the tick t. -/
def snS (x : Bu) (l : List Int) : Nat → Int × Int
  | 0 => (x.d, 0)
  | t + 1 => (min ((snS x l t).1 - min ((snS x l t).2 + l.getD t 0) (snS x l t).1 + x.r) x.d, (snS x l t).2 + l.getD t 0 - min ((snS x l t).2 + l.getD t 0) (snS x l t).1)
/-- What is granted at the tick t. -/
def snG (x : Bu) (l : List Int) (t : Nat) : Int := min ((snS x l t).2 + l.getD t 0) (snS x l t).1
theorem snS_succ (x : Bu) (l : List Int) (t : Nat) : snS x l (t + 1) = (min ((snS x l t).1 - snG x l t + x.r) x.d, (snS x l t).2 + l.getD t 0 - snG x l t) := rfl
theorem snS_in {x : Bu} {l : List Int} (hx : buOk x = true) (hl : trOk l = true) (t : Nat) : (0 ≤ (snS x l t).1 ∧ (snS x l t).1 ≤ x.d) ∧ (0 ≤ (snS x l t).2 ∧ (snS x l t).2 ≤ 1000 * t) := by
  have h1 := buOk_in hx
  induction t with
  | zero => simp only [snS]; omega
  | succ t ih =>
    have h2 := trOk_at hl t
    rw [snS_succ]
    simp only [snG]
    omega
theorem snG_in {x : Bu} {l : List Int} (hx : buOk x = true) (hl : trOk l = true) (t : Nat) : 0 ≤ snG x l t ∧ snG x l t ≤ 1000 := by
  have h1 := buOk_in hx
  have h2 := snS_in hx hl t
  have h3 := trOk_at hl t
  unfold snG
  omega
/-- Does it go on at the tick t? -/
def snGo (x : Bu) (l : List Int) (t : Nat) : Bool := decide (t < l.length) || decide (0 < (snS x l t).2)
/-- Where it ends, from the tick t on, with f ticks left to try. -/
def snE (x : Bu) (l : List Int) : Nat → Nat → Option Nat
  | t, 0 => if snGo x l t = true then none else some t
  | t, f + 1 => if snGo x l t = true then snE x l (t + 1) f else some t
theorem snE_le {x : Bu} {l : List Int} {t f n : Nat} (h : snE x l t f = some n) : t ≤ n ∧ n ≤ t + f := by
  induction f generalizing t with
  | zero =>
    rw [snE] at h
    split at h
    · cases h
    · injection h with h; omega
  | succ f ih =>
    rw [snE] at h
    split at h
    · have := ih h; omega
    · injection h with h; omega
def snT (x : Bu) (l : List Int) (n : Nat) : List Int := (List.range n).map (snG x l)
theorem snT_succ (x : Bu) (l : List Int) (n : Nat) : snT x l (n + 1) = snT x l n ++ [snG x l n] := by simp [snT, List.range_succ]
theorem snT_length (x : Bu) (l : List Int) (n : Nat) : (snT x l n).length = n := by simp [snT]
theorem snT_at (x : Bu) (l : List Int) (n t : Nat) (ht : t < n) : (snT x l n).getD t 0 = snG x l t := by simp [snT, List.getD, ht]
/-- What is left behind each tick. -/
def snB (x : Bu) (l : List Int) (n : Nat) : List Int := (List.range n).map fun t => (snS x l (t + 1)).2
theorem snB_succ (x : Bu) (l : List Int) (n : Nat) : snB x l (n + 1) = snB x l n ++ [(snS x l (n + 1)).2] := by simp [snB, List.range_succ]
theorem snB_length (x : Bu) (l : List Int) (n : Nat) : (snB x l n).length = n := by simp [snB]
theorem snB_at (x : Bu) (l : List Int) (n t : Nat) (ht : t < n) : (snB x l n).getD t 0 = (snS x l (t + 1)).2 := by simp [snB, List.getD, ht]
def snRg (x : Bu) (l : List Int) : Option Nat := snE x l 0 100
theorem snRg_le {x : Bu} {l : List Int} {n : Nat} (h : snRg x l = some n) : n ≤ 100 := by have := snE_le h; omega
def outO (x : Bu) (l : List Int) : Option Nat → List Int × Bool
  | some n => (snT x l n, true)
  | none => ([], false)
def outB (x : Bu) (l : List Int) : Option Nat → List Int
  | some n => snB x l n
  | none => []
def shpSays (x : Bu) (l : List Int) : List Int × Bool := if askOk x l = true then outO x l (snRg x l) else ([], false)
theorem outO_len (x : Bu) (l : List Int) : (outO x l (snRg x l)).1.length ≤ 100 := by
  cases h : snRg x l with
  | none => simp [outO]
  | some n => have := snRg_le h; simp only [outO, snT_length]; exact this
theorem shpSays_len (x : Bu) (l : List Int) : (shpSays x l).1.length ≤ 1048576 := by
  unfold shpSays
  split
  · have := outO_len x l; omega
  · simp
/-- What a leak says: a bucket no deeper than its rate. -/
def leakSays (r : Int) (l : List Int) : List Int × Bool := if (wi r 1 100 && trOk l) = true then outO ⟨r, r⟩ l (snRg ⟨r, r⟩ l) else ([], false)
theorem leakSays_len (r : Int) (l : List Int) : (leakSays r l).1.length ≤ 1048576 := by
  unfold leakSays
  split
  · have := outO_len ⟨r, r⟩ l; omega
  · simp
/-- The greatest backlog behind the ticks ahead of n. -/
def snM (x : Bu) (l : List Int) : Nat → Int
  | 0 => 0
  | n + 1 => max (snM x l n) (snS x l (n + 1)).2
theorem snM_in {x : Bu} {l : List Int} (hx : buOk x = true) (hl : trOk l = true) (n : Nat) (hn : n ≤ 100) : 0 ≤ snM x l n ∧ snM x l n ≤ 100000 := by
  induction n with
  | zero => simp [snM]
  | succ n ih =>
    have h1 := snS_in hx hl (n + 1)
    have h2 := ih (by omega)
    simp only [snM]
    omega
def optM (x : Bu) (l : List Int) : Option Nat → Int × Bool
  | some n => (snM x l n, true)
  | none => (0, false)
def backSays (x : Bu) (l : List Int) : Int × Bool := if askOk x l = true then optM x l (snRg x l) else (0, false)

/-- The first of n places at which P has come to c, from the place i on with f of them left. -/
def cutF (P : Nat → Int) (c : Int) : Nat → Nat → Nat
  | i, 0 => i
  | i, f + 1 => if c ≤ P i then i else cutF P c (i + 1) f
theorem cutF_is {P : Nat → Int} {c : Int} {i f k : Nat} (hi : i ≤ k) (hk : k ≤ i + f) (hlo : ∀ m, m < k → P m < c) (hhi : k < i + f → c ≤ P k) : cutF P c i f = k := by
  induction f generalizing i with
  | zero => simp only [cutF]; omega
  | succ f ih =>
    rw [cutF]
    by_cases e : i = k
    · subst e
      rw [if_pos (hhi (by omega))]
    · have := hlo i (by omega)
      rw [if_neg (by omega)]
      exact ih (by omega) (by omega) (fun h => hhi (by omega))
/-- What has gone up to the place i and with it. -/
def goneP (o : List Int) (i : Nat) : Int := sumL (o.take (i + 1))
def cutO (o : List Int) (c : Int) : Nat := cutF (goneP o) c 0 o.length
theorem cutO_is {o : List Int} {c : Int} {k : Nat} (hk : k ≤ o.length) (hlo : ∀ m, m < k → goneP o m < c) (hhi : k < o.length → c ≤ goneP o k) : cutO o c = k :=
  cutF_is (Nat.zero_le _) (by omega) hlo (fun h => hhi (by omega))
/-- The greatest delay of the first s amounts. -/
def dlN (l o : List Int) : Nat → Int
  | 0 => 0
  | s + 1 => if 0 < l.getD s 0 then max (dlN l o s) ((cutO o (sumL (l.take (s + 1))) : Nat) - (s : Int)) else dlN l o s
theorem cutF_le (P : Nat → Int) (c : Int) (i f : Nat) : i ≤ cutF P c i f ∧ cutF P c i f ≤ i + f := by
  induction f generalizing i with
  | zero => simp [cutF]
  | succ f ih =>
    rw [cutF]
    split
    · omega
    · have := ih (i + 1); omega
theorem cutO_le (o : List Int) (c : Int) : cutO o c ≤ o.length := by have := cutF_le (goneP o) c 0 o.length; unfold cutO; omega
theorem dlN_in (l o : List Int) (ho : o.length ≤ 100) (s : Nat) : 0 ≤ dlN l o s ∧ dlN l o s ≤ 100 := by
  induction s with
  | zero => simp [dlN]
  | succ s ih =>
    have := cutO_le o (sumL (l.take (s + 1)))
    simp only [dlN]
    split <;> omega
def optD (x : Bu) (l : List Int) : Option Nat → Int × Bool
  | some n => (dlN l (snT x l n) l.length, true)
  | none => (0, false)
def delSays (x : Bu) (l : List Int) : Int × Bool := if askOk x l = true then optD x l (snRg x l) else (0, false)
theorem snT_mem {x : Bu} {l : List Int} (hx : buOk x = true) (hl : trOk l = true) (n : Nat) : ∀ y ∈ snT x l n, 0 ≤ y ∧ y ≤ 1000 := by
  intro y hy
  obtain ⟨t, _, rfl⟩ := List.mem_map.1 hy
  exact snG_in hx hl t
/-- Numbers that do not fall. -/
def NF (l : List Int) : Prop := ∀ i j, i ≤ j → j < l.length → l.getD i 0 ≤ l.getD j 0
/-- The running sums. -/
def runT (o : List Int) (k : Nat) : List Int := (List.range k).map (goneP o)
theorem runT_succ (o : List Int) (k : Nat) : runT o (k + 1) = runT o k ++ [goneP o k] := by simp [runT, List.range_succ]
theorem runT_length (o : List Int) (k : Nat) : (runT o k).length = k := by simp [runT]
theorem runT_at (o : List Int) (k i : Nat) (hi : i < k) : (runT o k).getD i 0 = goneP o i := by simp [runT, List.getD, hi]
def runP (o : List Int) (k : Nat) : List Int := runT o k ++ List.replicate (o.length - k) 0
theorem runP_zero (o : List Int) : runP o 0 = List.replicate o.length 0 := by simp [runP, runT]
theorem runP_all (o : List Int) : runP o o.length = runT o o.length := by simp [runP]
theorem runP_length (o : List Int) (k : Nat) (hk : k ≤ o.length) : (runP o k).length = o.length := by simp [runP, runT_length]; omega
theorem runP_set (o : List Int) (k : Nat) (hk : k < o.length) : (runP o k).set k (goneP o k) = runP o (k + 1) := by
  have e : o.length - k = (o.length - (k + 1)) + 1 := by omega
  unfold runP
  rw [e, List.replicate_succ, List.set_append_right k _ (by rw [runT_length]; exact Nat.le_refl _), runT_length, Nat.sub_self, List.set_cons_zero, runT_succ]
  simp
theorem sumL_ge {o : List Int} (h : ∀ y ∈ o, 0 ≤ y ∧ y ≤ 1000) {i j : Nat} (hij : i ≤ j) (hj : j ≤ o.length) : sumL (o.take i) ≤ sumL (o.take j) := by
  induction j with
  | zero => obtain rfl : i = 0 := by omega
            exact Int.le_refl _
  | succ j ih =>
    by_cases e : i = j + 1
    · rw [e]; exact Int.le_refl _
    · have h1 := ih (by omega) (by omega)
      have h2 := h (o.getD j 0) (by simp [List.getD, show j < o.length by omega])
      rw [sumL_take o j (by omega)]
      omega
theorem runT_nf {o : List Int} (h : ∀ y ∈ o, 0 ≤ y ∧ y ≤ 1000) : NF (runT o o.length) := by
  intro i j hij hj
  rw [runT_length] at hj
  rw [runT_at _ _ _ (by omega), runT_at _ _ _ hj]
  exact sumL_ge h (by omega) (by omega)
end Go.Proofs.Ytlanpfcjcafapaa
