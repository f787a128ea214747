/-
  Mathematics of buckets and traffic: levels, stretches, windows, what is sent. No dump is imported but for the small words on bounds.
-/
import Derived.Test.YtfncajdhdcpooaaDoorIn
import Derived.Test.YtfncajdhdcpooaaDoorMathEl
namespace Go.Proofs.YtfncajdhdcpooaaDoor
open Go.RowKit
set_option maxRecDepth 100000
set_option linter.unusedVariables false

/-- A bucket as data. -/
structure Bu where
  r : Int
  d : Int
instance : Inhabited Bu := ⟨⟨0, 0⟩⟩
def BuV (x : Bu) : Value := .agg #[.int .i64 x.r, .int .i64 x.d]
def buOk (x : Bu) : Bool := wi x.r 1 100 && wi x.d 1 1000
theorem buOk_in {x : Bu} (h : buOk x = true) : (1 ≤ x.r ∧ x.r ≤ 100) ∧ (1 ≤ x.d ∧ x.d ≤ 1000) := by simpa [buOk, wi] using h
def trOk (l : List Int) : Bool := decide (l.length ≤ 40) && okAll 0 1000 l
theorem trOk_len {l : List Int} (h : trOk l = true) : l.length ≤ 40 := by simp only [trOk, Bool.and_eq_true, decide_eq_true_eq] at h; exact h.1
theorem trOk_at {l : List Int} (h : trOk l = true) (j : Nat) : 0 ≤ l.getD j 0 ∧ l.getD j 0 ≤ 1000 := by
  simp only [trOk, Bool.and_eq_true, decide_eq_true_eq] at h
  rcases Nat.lt_or_ge j l.length with hj | hj
  · exact okAll_at h.2 j hj
  · have e : l.getD j 0 = 0 := by simp [List.getD, hj]
    rw [e]; omega
theorem trOk_mem {l : List Int} (h : trOk l = true) : ∀ x ∈ l, 0 ≤ x ∧ x ≤ 1000 := by
  intro x hx
  obtain ⟨j, hj, rfl⟩ := List.getElem_of_mem hx
  have := trOk_at h j
  simpa [List.getD, hj] using this
theorem trOk_long {l : List Int} (h : ¬ l.length ≤ 40) : trOk l = false := by simp [trOk]; omega
theorem trOk_short {l : List Int} (h : l.length ≤ 40) : trOk l = okAll 0 1000 l := by simp [trOk, h]
def askOk (x : Bu) (l : List Int) : Bool := buOk x && trOk l
theorem askOk_in {x : Bu} {l : List Int} (h : askOk x l = true) : buOk x = true ∧ trOk l = true := by simpa [askOk] using h

/-- The level ahead of the tick k. -/
def lvN (x : Bu) (l : List Int) : Nat → Int
  | 0 => x.d
  | k + 1 => min (lvN x l k - l.getD k 0 + x.r) x.d
/-- Is each amount ahead of the tick k at most its level? -/
def kpN (x : Bu) (l : List Int) : Nat → Bool
  | 0 => true
  | k + 1 => kpN x l k && decide (l.getD k 0 ≤ lvN x l k)
theorem kpN_le {x : Bu} {l : List Int} {k m : Nat} (h : kpN x l m = true) (hk : k < m) : l.getD k 0 ≤ lvN x l k := by
  induction m with
  | zero => omega
  | succ m ih =>
    simp only [kpN, Bool.and_eq_true, decide_eq_true_eq] at h
    by_cases hkm : k = m
    · exact hkm ▸ h.2
    · exact ih h.1 (by omega)
theorem kpN_no {x : Bu} {l : List Int} {k m : Nat} (h : lvN x l k < l.getD k 0) (hk : k < m) : kpN x l m = false := by
  rcases hb : kpN x l m with _ | _
  · rfl
  · have := kpN_le hb hk
    omega
theorem kpN_succ {x : Bu} {l : List Int} {k : Nat} (h : kpN x l k = true) (hk : l.getD k 0 ≤ lvN x l k) : kpN x l (k + 1) = true := by simp only [kpN, h, Bool.true_and, decide_eq_true_eq]; exact hk
theorem lvN_in {x : Bu} {l : List Int} (hx : buOk x = true) (hl : trOk l = true) (k : Nat) (h : kpN x l k = true) : 0 ≤ lvN x l k ∧ lvN x l k ≤ x.d := by
  have h1 := buOk_in hx
  induction k with
  | zero => simp only [lvN]; omega
  | succ k ih =>
    have h2 := kpN_le h (Nat.lt_succ_self k)
    have h3 := ih (by simp only [kpN, Bool.and_eq_true] at h; exact h.1)
    simp only [lvN]
    omega
def lvT (x : Bu) (l : List Int) (k : Nat) : List Int := (List.range k).map (lvN x l)
theorem lvT_succ (x : Bu) (l : List Int) (k : Nat) : lvT x l (k + 1) = lvT x l k ++ [lvN x l k] := by simp [lvT, List.range_succ]
theorem lvT_length (x : Bu) (l : List Int) (k : Nat) : (lvT x l k).length = k := by simp [lvT]
/-- The levels so far, and noughts behind them. -/
def lvP (x : Bu) (l : List Int) (k : Nat) : List Int := lvT x l k ++ List.replicate (l.length - k) 0
theorem lvP_zero (x : Bu) (l : List Int) : lvP x l 0 = List.replicate l.length 0 := by simp [lvP, lvT]
theorem lvP_all (x : Bu) (l : List Int) : lvP x l l.length = lvT x l l.length := by simp [lvP]
theorem lvP_length (x : Bu) (l : List Int) (k : Nat) (hk : k ≤ l.length) : (lvP x l k).length = l.length := by simp [lvP, lvT_length]; omega
theorem lvP_set (x : Bu) (l : List Int) (k : Nat) (hk : k < l.length) : (lvP x l k).set k (lvN x l k) = lvP x l (k + 1) := by
  have e : l.length - k = (l.length - (k + 1)) + 1 := by omega
  unfold lvP
  rw [e, List.replicate_succ, List.set_append_right k _ (by rw [lvT_length]; exact Nat.le_refl _), lvT_length, Nat.sub_self, List.set_cons_zero, lvT_succ]
  simp
/-- The levels of traffic that keeps its bucket. -/
def lvRg (x : Bu) (l : List Int) : List Int × Bool := if kpN x l l.length = true then (lvT x l l.length, true) else ([], false)
theorem lvRg_yes {x : Bu} {l : List Int} (h : kpN x l l.length = true) : lvRg x l = (lvT x l l.length, true) := by simp [lvRg, h]
theorem lvRg_no {x : Bu} {l : List Int} (h : kpN x l l.length = false) : lvRg x l = ([], false) := by simp [lvRg, h]
theorem lvRg_snd (x : Bu) (l : List Int) : (lvRg x l).2 = kpN x l l.length := by
  cases h : kpN x l l.length
  · rw [lvRg_no h]
  · rw [lvRg_yes h]
def lvSays (x : Bu) (l : List Int) : List Int × Bool := if askOk x l = true then lvRg x l else ([], false)
theorem lvSays_len (x : Bu) (l : List Int) : (lvSays x l).1.length ≤ 1048576 := by
  unfold lvSays
  split
  · next h =>
    have := trOk_len (askOk_in h).2
    cases hk : kpN x l l.length
    · rw [lvRg_no hk]; simp
    · rw [lvRg_yes hk, lvT_length]; omega
  · simp
def kpSays (x : Bu) (l : List Int) : Bool × Bool := if askOk x l = true then (kpN x l l.length, true) else (false, false)
def bothSays (x y : Bu) (l : List Int) : Bool × Bool := if (askOk x l && buOk y) = true then (kpN x l l.length && kpN y l l.length, true) else (false, false)

/-- The least of the rates k + 1, .., k + m with which traffic keeps the bucket, if there is one. -/
def rateN (d : Int) (l : List Int) : Nat → Nat → Option Nat
  | k, 0 => none
  | k, m + 1 => if kpN ⟨(k : Int) + 1, d⟩ l l.length = true then some (k + 1) else rateN d l (k + 1) m
theorem rateN_le {d : Int} {l : List Int} {k m r : Nat} (h : rateN d l k m = some r) : k < r ∧ r ≤ k + m := by
  induction m generalizing k with
  | zero => cases h
  | succ m ih =>
    rw [rateN] at h
    split at h
    · injection h with h; omega
    · have := ih h; omega
def optN : Option Nat → Int × Bool
  | some n => (n, true)
  | none => (0, false)
def rateSays (d : Int) (l : List Int) : Int × Bool := if (wi d 1 1000 && trOk l) = true then optN (rateN d l 0 100) else (0, false)

/-- A stretch of ticks: its first one, its last one, its sum. -/
structure St where
  f : Int
  l : Int
  s : Int
/-- The sum of the k amounts up to the tick t. -/
def sumB (l : List Int) (t : Nat) : Nat → Int
  | 0 => 0
  | k + 1 => sumB l t k + l.getD (t - k) 0
theorem sumB_in {l : List Int} (hl : trOk l = true) (t k : Nat) : 0 ≤ sumB l t k ∧ sumB l t k ≤ 1000 * k := by
  induction k with
  | zero => simp [sumB]
  | succ k ih =>
    have := trOk_at hl (t - k)
    simp only [sumB]
    omega
/-- The stretches that end at the tick t, from the shortest on. -/
def stB (l : List Int) (t k : Nat) : St := ⟨(t : Int) - k, t, sumB l t (k + 1)⟩
def stI (l : List Int) (t k : Nat) : List St := (List.range k).map (stB l t)
theorem stI_succ (l : List Int) (t k : Nat) : stI l t (k + 1) = stI l t k ++ [stB l t k] := by simp [stI, List.range_succ]
theorem stI_length (l : List Int) (t k : Nat) : (stI l t k).length = k := by simp [stI]
/-- All stretches that end ahead of the tick t. -/
def stA (l : List Int) : Nat → List St
  | 0 => []
  | t + 1 => stA l t ++ stI l t (t + 1)
theorem stA_length (l : List Int) (t : Nat) : (stA l t).length ≤ t * 41 ∨ 40 < t := by
  induction t with
  | zero => simp [stA]
  | succ t ih =>
    simp only [stA, List.length_append, stI_length]
    omega
theorem stA_len {l : List Int} {t : Nat} (h : t ≤ 40) : (stA l t).length ≤ 1640 := by
  have := stA_length l t
  omega
/-- What keeps all stretches in bounds. -/
def StIn (x : St) : Prop := (0 ≤ x.f ∧ x.f ≤ x.l ∧ x.l < 40) ∧ (0 ≤ x.s ∧ x.s ≤ 40000)
theorem stB_in {l : List Int} (hl : trOk l = true) {t k : Nat} (ht : t < l.length) (hk : k ≤ t) : StIn (stB l t k) := by
  have h1 := trOk_len hl
  have h2 := sumB_in hl t (k + 1)
  refine ⟨⟨?_, ?_, ?_⟩, ?_, ?_⟩ <;> simp only [stB] <;> omega
theorem stI_in {l : List Int} (hl : trOk l = true) {t k : Nat} (ht : t < l.length) (hk : k ≤ t + 1) : ∀ x ∈ stI l t k, StIn x := by
  intro x hx
  obtain ⟨j, hj, rfl⟩ := List.mem_map.1 hx
  exact stB_in hl ht (by have := List.mem_range.1 hj; omega)
theorem stA_in {l : List Int} (hl : trOk l = true) {t : Nat} (ht : t ≤ l.length) : ∀ x ∈ stA l t, StIn x := by
  induction t with
  | zero => intro x hx; cases hx
  | succ t ih =>
    intro x hx
    rcases List.mem_append.1 hx with h | h
    · exact ih (by omega) x h
    · exact stI_in hl (by omega) (Nat.le_refl _) x h
theorem stI_pre (l : List Int) (t : Nat) {k m : Nat} (h : k ≤ m) : ∃ L, stI l t m = stI l t k ++ L := by
  induction m with
  | zero => exact ⟨[], by obtain rfl : k = 0 := by omega
                          simp⟩
  | succ m ih =>
    by_cases e : k = m + 1
    · exact ⟨[], by rw [e]; simp⟩
    · obtain ⟨L, hL⟩ := ih (by omega)
      exact ⟨L ++ [stB l t m], by rw [stI_succ, hL, List.append_assoc]⟩
theorem stA_pre (l : List Int) {k m : Nat} (h : k ≤ m) : ∃ L, stA l m = stA l k ++ L := by
  induction m with
  | zero => exact ⟨[], by obtain rfl : k = 0 := by omega
                          simp⟩
  | succ m ih =>
    by_cases e : k = m + 1
    · exact ⟨[], by rw [e]; simp⟩
    · obtain ⟨L, hL⟩ := ih (by omega)
      exact ⟨L ++ stI l m (m + 1), by rw [stA, hL, List.append_assoc]⟩
/-- What is ahead of the stretch k of those at the tick t. -/
def stTo (l : List Int) (t k : Nat) : List St := stA l t ++ stI l t k
theorem stTo_zero (l : List Int) (t : Nat) : stTo l t 0 = stA l t := by simp [stTo, stI]
theorem stTo_succ (l : List Int) (t k : Nat) : stTo l t (k + 1) = stTo l t k ++ [stB l t k] := by simp [stTo, stI_succ]
theorem stTo_all (l : List Int) (t : Nat) : stTo l t (t + 1) = stA l (t + 1) := rfl
theorem stTo_pre (l : List Int) {t k n : Nat} (ht : t < n) (hk : k ≤ t + 1) : ∃ L, stA l n = stTo l t k ++ L := by
  obtain ⟨L1, h1⟩ := stI_pre l t hk
  obtain ⟨L2, h2⟩ := stA_pre l (show t + 1 ≤ n by omega)
  refine ⟨L1 ++ L2, ?_⟩
  rw [h2, stA, h1]
  simp [stTo]
theorem stTo_len {l : List Int} {t k : Nat} (h : t < 40) (hk : k ≤ t + 1) : (stTo l t k).length ≤ 1640 := by
  have := stA_length l t
  simp only [stTo, List.length_append, stI_length]
  omega
/-- The depth that a stretch needs. -/
def needS (r : Int) (x : St) : Int := x.s - r * (x.l - x.f)
theorem needS_in {r : Int} {x : St} (hr : 1 ≤ r ∧ r ≤ 100) (hx : StIn x) : -4000 ≤ needS r x ∧ needS r x ≤ 40000 := by
  obtain ⟨⟨h1, h2, h3⟩, h4, h5⟩ := hx
  have h6 : 0 ≤ r * (x.l - x.f) := Int.mul_nonneg (by omega) (by omega)
  have h7 : r * (x.l - x.f) ≤ 100 * (x.l - x.f) := Int.mul_le_mul_of_nonneg_right hr.2 (by omega)
  unfold needS
  omega
def brP (x : Bu) (y : St) : Bool := decide (x.d < needS x.r y)
def optS : Option St → List Int × Bool
  | some y => ([y.f, y.l], true)
  | none => ([], false)
def brSays (x : Bu) (l : List Int) : List Int × Bool := if askOk x l = true then optS ((stA l l.length).find? (brP x)) else ([], false)
theorem brSays_len (x : Bu) (l : List Int) : (brSays x l).1.length ≤ 1048576 := by
  unfold brSays
  split
  · cases (stA l l.length).find? (brP x) <;> simp [optS]
  · simp
theorem find_pre {p : St → Bool} {L M : List St} {x : St} (h : L.find? p = none) (hx : p x = true) : (L ++ [x] ++ M).find? p = some x := by
  rw [List.find?_append, List.find?_append, h]
  simp [hx]
theorem find_snoc {p : St → Bool} {L : List St} {x : St} (h : L.find? p = none) (hx : p x = false) : (L ++ [x]).find? p = none := by
  rw [List.find?_append, h]
  simp [hx]
/-- The greatest of what a function gives. -/
def mxF {α : Type} (f : α → Int) (m : Int) (L : List α) : Int := L.foldl (fun m x => max m (f x)) m
theorem mxF_nil {α : Type} (f : α → Int) (m : Int) : mxF f m [] = m := rfl
theorem mxF_snoc {α : Type} (f : α → Int) (m : Int) (L : List α) (x : α) : mxF f m (L ++ [x]) = max (mxF f m L) (f x) := by simp [mxF]
theorem mxF_from {α : Type} (f : α → Int) (m n : Int) (L : List α) : mxF f (max m n) L = max m (mxF f n L) := by
  induction L generalizing n with
  | nil => rfl
  | cons x L ih =>
    show mxF f (max (max m n) (f x)) L = max m (mxF f (max n (f x)) L)
    rw [show max (max m n) (f x) = max m (max n (f x)) by omega, ih]
theorem mxF_in {α : Type} {f : α → Int} {m b : Int} {L : List α} (hm : m ≤ b) (h : ∀ x ∈ L, f x ≤ b) : m ≤ mxF f m L ∧ mxF f m L ≤ b := by
  induction L generalizing m with
  | nil => exact ⟨Int.le_refl _, hm⟩
  | cons x L ih =>
    have h1 := h x (List.mem_cons_self ..)
    have := ih (m := max m (f x)) (by omega) fun y hy => h y (List.mem_cons_of_mem _ hy)
    show m ≤ mxF f (max m (f x)) L ∧ mxF f (max m (f x)) L ≤ b
    omega
def depN (r : Int) (l : List Int) : Int := mxF (needS r) 1 (stA l l.length)
theorem depN_is (r : Int) (l : List Int) : depN r l = max 1 (mxF (needS r) 0 (stA l l.length)) := by
  unfold depN
  rw [← mxF_from]
  rfl
def depSays (r : Int) (l : List Int) : Int × Bool := if (wi r 1 100 && trOk l) = true then (if depN r l ≤ 1000 then (depN r l, true) else (0, false)) else (0, false)

/-- The windows of k ticks next to each other. -/
def wnL (l : List Int) (k m : Nat) : List (List Int) := (List.range m).map fun s => (l.drop s).take k
theorem wnL_succ (l : List Int) (k m : Nat) : wnL l k (m + 1) = wnL l k m ++ [(l.drop m).take k] := by simp [wnL, List.range_succ]
theorem wnL_length (l : List Int) (k m : Nat) : (wnL l k m).length = m := by simp [wnL]
def wnX (l : List Int) (k : Nat) : Int := mxF sumL 0 (wnL l k (l.length + 1 - k))
def wnT (l : List Int) (k : Nat) : List Int := (List.range k).map fun i => wnX l (i + 1)
theorem wnT_succ (l : List Int) (k : Nat) : wnT l (k + 1) = wnT l k ++ [wnX l (k + 1)] := by simp [wnT, List.range_succ]
theorem wnT_length (l : List Int) (k : Nat) : (wnT l k).length = k := by simp [wnT]
def wnP (l : List Int) (k : Nat) : List Int := wnT l k ++ List.replicate (l.length - k) 0
theorem wnP_zero (l : List Int) : wnP l 0 = List.replicate l.length 0 := by simp [wnP, wnT]
theorem wnP_all (l : List Int) : wnP l l.length = wnT l l.length := by simp [wnP]
theorem wnP_length (l : List Int) (k : Nat) (hk : k ≤ l.length) : (wnP l k).length = l.length := by simp [wnP, wnT_length]; omega
theorem wnP_set (l : List Int) (k : Nat) (hk : k < l.length) : (wnP l k).set k (wnX l (k + 1)) = wnP l (k + 1) := by
  have e : l.length - k = (l.length - (k + 1)) + 1 := by omega
  unfold wnP
  rw [e, List.replicate_succ, List.set_append_right k _ (by rw [wnT_length]; exact Nat.le_refl _), wnT_length, Nat.sub_self, List.set_cons_zero, wnT_succ]
  simp
theorem win_in {l : List Int} (hl : trOk l = true) (s k : Nat) : ∀ x ∈ (l.drop s).take k, 0 ≤ x ∧ x ≤ 1000 := fun x hx => trOk_mem hl x (List.mem_of_mem_drop (List.mem_of_mem_take hx))
theorem win_sum {l : List Int} (hl : trOk l = true) (s k : Nat) : 0 ≤ sumL ((l.drop s).take k) ∧ sumL ((l.drop s).take k) ≤ 40000 := by
  have h1 := trOk_len hl
  have h2 := sumL_bound ((l.drop s).take k) 1000 (win_in hl s k) ((l.drop s).take k).length (Nat.le_refl _)
  rw [List.take_length] at h2
  have h3 : ((l.drop s).take k).length ≤ 40 := by simp; omega
  omega
def wnSays (l : List Int) : List Int × Bool := if trOk l = true then (wnT l l.length, true) else ([], false)
theorem wnSays_len (l : List Int) : (wnSays l).1.length ≤ 1048576 := by
  unfold wnSays
  split
  · next h =>
    have := trOk_len h
    simp only [wnT_length]
    omega
  · simp

/-- The sums at each tick of two lists. -/
def addT (a b : List Int) (k : Nat) : List Int := (List.range k).map fun t => a.getD t 0 + b.getD t 0
theorem addT_succ (a b : List Int) (k : Nat) : addT a b (k + 1) = addT a b k ++ [a.getD k 0 + b.getD k 0] := by simp [addT, List.range_succ]
theorem addT_length (a b : List Int) (k : Nat) : (addT a b k).length = k := by simp [addT]
def addP (a b : List Int) (n k : Nat) : List Int := addT a b k ++ List.replicate (n - k) 0
theorem addP_zero (a b : List Int) (n : Nat) : addP a b n 0 = List.replicate n 0 := by simp [addP, addT]
theorem addP_all (a b : List Int) (n : Nat) : addP a b n n = addT a b n := by simp [addP]
theorem addP_length (a b : List Int) (n k : Nat) (hk : k ≤ n) : (addP a b n k).length = n := by simp [addP, addT_length]; omega
theorem addP_set (a b : List Int) (n k : Nat) (hk : k < n) : (addP a b n k).set k (a.getD k 0 + b.getD k 0) = addP a b n (k + 1) := by
  have e : n - k = (n - (k + 1)) + 1 := by omega
  unfold addP
  rw [e, List.replicate_succ, List.set_append_right k _ (by rw [addT_length]; exact Nat.le_refl _), addT_length, Nat.sub_self, List.set_cons_zero, addT_succ]
  simp
def addL (a b : List Int) : List Int := addT a b (max a.length b.length)
def addSays (a b : List Int) : List Int × Bool := if (trOk a && trOk b) = true then (if trOk (addL a b) = true then (addL a b, true) else ([], false)) else ([], false)
theorem addSays_len (a b : List Int) : (addSays a b).1.length ≤ 1048576 := by
  unfold addSays
  split
  · split
    · next h => have := trOk_len h; simp only; omega
    · simp
  · simp
def joinB (x y : Bu) : Bu := ⟨x.r + y.r, x.d + y.d⟩
def joinSays (x y : Bu) : Bu × Bool := if (buOk x && buOk y && buOk (joinB x y)) = true then (joinB x y, true) else (⟨0, 0⟩, false)
end Go.Proofs.YtfncajdhdcpooaaDoor
