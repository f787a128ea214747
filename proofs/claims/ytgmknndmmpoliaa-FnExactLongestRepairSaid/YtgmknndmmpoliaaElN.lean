/-
  Chapter 7: a map of stations and names as a function; the mathematics of the election both ways.
-/
import Derived.Test.YtgmknndmmpoliaaElM
import Derived.Test.YtgmknndmmpoliaaElB2
import Derived.Maps.RangeWalk
namespace Go.Proofs.Ytgmknndmmpoliaa
open Go.RowKit Go.Maps
set_option maxRecDepth 100000
set_option linter.unusedVariables false

theorem below_grown0 {w w' : World} (h : Below w.heap.size w w') (row : Option Nat) : w.grownBy w' row := ⟨h.os, h.tape, h.output, h.size, fun i hi _ => h.block i hi⟩
def cntA (A : Nat → Bool) : Nat → Nat
  | 0 => 0
  | n + 1 => cntA A n + (if A n = true then 1 else 0)
theorem cntA_congr {A B : Nat → Bool} {n : Nat} (h : ∀ i, i < n → A i = B i) : cntA A n = cntA B n := by
  induction n with
  | zero => rfl
  | succ n ih => rw [cntA, cntA, ih fun i hi => h i (by omega), h n (by omega)]
def updB (A : Nat → Bool) (i : Nat) (b : Bool) : Nat → Bool := fun j => if j = i then b else A j
def updV (V : Nat → Int) (i : Nat) (x : Int) : Nat → Int := fun j => if j = i then x else V j
theorem cntA_upd {A : Nat → Bool} {n i : Nat} {b : Bool} (hi : i < n) : cntA (updB A i b) n + (if A i = true then 1 else 0) = cntA A n + (if b = true then 1 else 0) := by
  induction n with
  | zero => omega
  | succ n ih =>
    rw [cntA, cntA]
    by_cases e : i = n
    · subst e
      rw [cntA_congr (A := updB A i b) (B := A) (n := i) fun j hj => by unfold updB; rw [if_neg (by omega)]]
      have : updB A i b i = b := by simp [updB]
      rw [this]
      omega
    · have := ih (by omega)
      have h2 : updB A i b n = A n := by unfold updB; rw [if_neg (by omega)]
      rw [h2]
      omega
def stKey (i : Nat) : Lit := .int .i64 (i : Int)
theorem stKey_wf {i : Nat} (h : i < 1000) : (Lit.int .i64 (i : Int)).wf = true := WalkArith.wf_i64 (by omega)
theorem stKey_ne {i j : Nat} (h : i ≠ j) : stKey i ≠ stKey j := by
  intro e
  unfold stKey at e
  injection e with _ e
  omega
theorem stKey_is {i : Nat} (h : i < 1000) : WideAt.IsKeyLit (stKey i) := trivial
/-- The map holds just the stations that A tells, each with the name V. -/
structure MF (D : DataW Unit) (n : Nat) (A : Nat → Bool) (V : Nat → Int) : Prop where
  tidy : Tidy D
  has : ∀ i, i < n → Maps.has D (stKey i) = A i
  at_ : ∀ i, i < n → A i = true → ∀ z, D.atKey (stKey i) z = .lit (.int .i64 (V i))
  only : ∀ kl, Maps.has D kl = true → ∃ i, i < n ∧ kl = stKey i
  size : Maps.size D = cntA A n
theorem MF.congr {D : DataW Unit} {n : Nat} {A B : Nat → Bool} {V U : Nat → Int} (h : MF D n A V) (hA : ∀ i, i < n → A i = B i) (hV : ∀ i, i < n → B i = true → V i = U i) : MF D n B U :=
  ⟨h.tidy, fun i hi => by rw [h.has i hi, hA i hi], fun i hi hb z => by rw [h.at_ i hi (by rw [hA i hi]; exact hb) z, hV i hi hb], h.only, by rw [h.size, cntA_congr hA]⟩
theorem cntA_none (n : Nat) : cntA (fun _ => false) n = 0 := by
  induction n with
  | zero => rfl
  | succ n ih => rw [cntA, ih]; rfl
theorem MF.empty (n : Nat) (V : Nat → Int) : MF (.map []) n (fun _ => false) V := by
  refine ⟨tidy_empty, fun i hi => rfl, fun i hi h => ?_, fun kl h => ?_, ?_⟩
  · exact absurd h (by simp)
  · simp [Maps.has] at h
  · rw [cntA_none]; rfl
theorem MF.put {D : DataW Unit} {n : Nat} {A : Nat → Bool} {V : Nat → Int} (h : MF D n A V) {i : Nat} (hi : i < n) (hn : n ≤ 1000) (x : Int) : MF (D.put (stKey i) (.lit (.int .i64 x))) n (updB A i true) (updV V i x) := by
  have hk : WideAt.IsKeyLit (stKey i) := stKey_is (by omega)
  refine ⟨h.tidy.put hk _, fun j hj => ?_, fun j hj hA z => ?_, fun kl hkl => ?_, ?_⟩
  · by_cases e : j = i
    · subst e
      rw [has_put_same h.tidy.isMap hk]
      simp [updB]
    · rw [has_put_other (stKey_ne e), h.has j hj]
      unfold updB
      rw [if_neg e]
  · by_cases e : j = i
    · subst e
      rw [atKey_put_same h.tidy.isMap hk]
      simp [updV]
    · have hA2 : A j = true := by unfold updB at hA; rw [if_neg e] at hA; exact hA
      rw [atKey_put_other (stKey_ne e), h.at_ j hj hA2 z]
      unfold updV
      rw [if_neg e]
  · by_cases e : kl = stKey i
    · exact ⟨i, hi, e⟩
    · rw [has_put_other e] at hkl
      exact h.only kl hkl
  · rw [size_put h.tidy, h.has i hi, h.size]
    have := cntA_upd (A := A) (b := true) hi
    split <;> simp_all <;> omega
theorem MF.del {D : DataW Unit} {n : Nat} {A : Nat → Bool} {V : Nat → Int} (h : MF D n A V) {i : Nat} (hi : i < n) (hn : n ≤ 1000) : MF (D.del (stKey i)) n (updB A i false) V := by
  refine ⟨h.tidy.del _, fun j hj => ?_, fun j hj hA z => ?_, fun kl hkl => ?_, ?_⟩
  · by_cases e : j = i
    · subst e
      rw [has_del_same]
      simp [updB]
    · rw [has_del_other (stKey_ne e), h.has j hj]
      unfold updB
      rw [if_neg e]
  · by_cases e : j = i
    · subst e
      simp [updB] at hA
    · have hA2 : A j = true := by unfold updB at hA; rw [if_neg e] at hA; exact hA
      rw [atKey_del_other (stKey_ne e), h.at_ j hj hA2 z]
  · by_cases e : kl = stKey i
    · rw [e, has_del_same] at hkl
      cases hkl
    · rw [has_del_other e] at hkl
      exact h.only kl hkl
  · have h1 := size_del (k := stKey i) h.tidy
    rw [h.has i hi, h.size] at h1
    have := cntA_upd (A := A) (b := false) hi
    simp at this
    omega
/-- A key that comes out of it is a station's. -/
theorem MF.came {D : DataW Unit} {n : Nat} {A : Nat → Bool} {V : Nat → Int} (h : MF D n A V) {x c : Int} (hat : ∀ zd, D.atKey (.int .i64 x) zd = .lit (.int .i64 c)) : ∃ i : Nat, i < n ∧ x = (i : Int) ∧ A i = true ∧ c = V i := by
  have h1 := has_true_of_atKey hat
  obtain ⟨i, hi, hk⟩ := h.only _ h1
  have hx : x = (i : Int) := by
    unfold stKey at hk
    injection hk
  subst hx
  have hA : A i = true := by rw [← h.has i hi]; exact h1
  refine ⟨i, hi, rfl, hA, ?_⟩
  have h2 := h.at_ i hi hA (.lit (.int .i64 0))
  unfold stKey at h2
  rw [hat] at h2
  injection h2 with h2
  injection h2
/-- The names as keys' values. -/
def kvOf (l : List Int) (j : Nat) : KV :=
  if h : (Lit.int .i64 (j : Int)).wf = true ∧ (Lit.int .i64 (l.getD j 0)).wf = true then ⟨((j : Int), l.getD j 0), h⟩ else ⟨(0, 0), by decide⟩
theorem kvOf_at {l : List Int} (hl : okAll 0 999 l = true) (hn : l.length ≤ 12) (j : Nat) (hj : j < l.length) : (kvOf l j).1 = ((j : Int), l.getD j 0) := by
  unfold kvOf
  rw [dif_pos ⟨stKey_wf (by omega), WalkArith.wf_i64 (by have := okAll_at hl j hj; omega)⟩]
theorem putD_mf {l : List Int} (hl : okAll 0 999 l = true) (hn : l.length ≤ 12) (k : Nat) (hk : k ≤ l.length) : MF (putD (kvT (kvOf l) k)) l.length (fun i => decide (i < k)) (fun i => l.getD i 0) := by
  induction k with
  | zero => exact (MF.empty l.length (fun i => l.getD i 0)).congr (fun i hi => by simp) (fun i hi h => rfl)
  | succ k ih =>
    rw [kvT_succ, putD_snoc, kvOf_at hl hn k hk]
    refine ((ih (by omega)).put (i := k) hk (by omega) (l.getD k 0)).congr (fun i hi => ?_) (fun i hi h => ?_)
    · unfold updB
      by_cases e : i = k
      · rw [if_pos e]; simp; omega
      · rw [if_neg e]; simp; omega
    · unfold updV
      by_cases e : i = k
      · rw [if_pos e, e]
      · rw [if_neg e]
theorem all_mf {l : List Int} (hl : okAll 0 999 l = true) (hn : l.length ≤ 12) : MF (putD (kvT (kvOf l) l.length)) l.length (fun _ => true) (fun i => l.getD i 0) :=
  (putD_mf hl hn l.length (Nat.le_refl _)).congr (fun i hi => by simpa using hi) (fun _ _ _ => rfl)

/-- Sums over stations. -/
def sumTo (f : Nat → Int) : Nat → Int
  | 0 => 0
  | n + 1 => sumTo f n + f n
theorem sumTo_congr {f g : Nat → Int} {n : Nat} (h : ∀ i, i < n → f i = g i) : sumTo f n = sumTo g n := by
  induction n with
  | zero => rfl
  | succ n ih => rw [sumTo, sumTo, ih fun i hi => h i (by omega), h n (by omega)]
theorem sumTo_upd {f g : Nat → Int} {n i : Nat} {c : Int} (hi : i < n) (h1 : g i = f i + c) (h2 : ∀ j, j < n → j ≠ i → g j = f j) : sumTo g n = sumTo f n + c := by
  induction n with
  | zero => omega
  | succ n ih =>
    rw [sumTo, sumTo]
    by_cases e : i = n
    · subst e
      rw [sumTo_congr (f := g) (g := f) (n := i) fun j hj => h2 j (by omega) (by omega), h1]
      omega
    · rw [ih (by omega) fun j hj hne => h2 j (by omega) hne, h2 n (by omega) (fun e2 => e e2.symm)]
      omega
theorem sumTo_in {f : Nat → Int} {b : Int} {n : Nat} (h : ∀ i, i < n → 0 ≤ f i ∧ f i ≤ b) : 0 ≤ sumTo f n ∧ sumTo f n ≤ b * n := by
  induction n with
  | zero => simp [sumTo]
  | succ n ih =>
    have h1 := ih fun i hi => h i (by omega)
    have h2 := h n (by omega)
    have e : b * ((n + 1 : Nat) : Int) = b * n + b := by rw [Int.natCast_add, Int.mul_add]; simp
    rw [sumTo]
    omega
/-- What a name costs in a phase, in one direction; does it get its answers? -/
def costD (l : List Int) (s d r : Nat) : Int := if ansN (gD l s d) 0 r = true then (stopN (gD l s d) 0 r : Nat) + (stopN (gD l s d) 0 r : Nat) else (stopN (gD l s d) 0 r : Nat)
def costN (l : List Int) (r s : Nat) : Int := costD l s 1 r + costD l s (l.length - 1) r
def okN (l : List Int) (r s : Nat) : Bool := ansN (gD l s 1) 0 r && ansN (gD l s (l.length - 1)) 0 r
/-- Does a station go into the phase p? -/
def alN (l : List Int) : Nat → Nat → Bool
  | 0, _ => true
  | p + 1, s => alN l p s && okN l (2 ^ p) s
def phS (l : List Int) (p : Nat) : Int := sumTo (fun s => if alN l p s = true then costN l (2 ^ p) s else 0) l.length
def totS (l : List Int) : Nat → Int
  | 0 => 0
  | p + 1 => totS l p + phS l p
/-- How many phases there are in which no name comes round. -/
def phN (n : Nat) : Nat := if n ≤ 1 then 0 else if n ≤ 2 then 1 else if n ≤ 4 then 2 else if n ≤ 8 then 3 else 4
theorem phN_is {n p : Nat} (hn : 2 ≤ n ∧ n ≤ 12) (h1 : n ≤ 2 ^ p) (h2 : ∀ q, q < p → 2 ^ q < n) : p = phN n := by
  have hp : p ≤ 4 := by
    refine Nat.le_of_not_lt fun h => ?_
    have := h2 4 h
    simp at this
    omega
  obtain rfl | rfl | rfl | rfl | rfl : p = 0 ∨ p = 1 ∨ p = 2 ∨ p = 3 ∨ p = 4 := by omega
  · simp at h1; omega
  · have := h2 0 (by omega)
    simp at this h1
    unfold phN
    repeat' split
    all_goals omega
  · have := h2 1 (by omega)
    simp at this h1
    unfold phN
    repeat' split
    all_goals omega
  · have := h2 2 (by omega)
    simp at this h1
    unfold phN
    repeat' split
    all_goals omega
  · have := h2 3 (by omega)
    simp at this h1
    unfold phN
    repeat' split
    all_goals omega
def bothI (l : List Int) : Int := totS l (phN l.length) + l.length
theorem costD_in (l : List Int) (s d r : Nat) (hr : r ≤ 12) : 0 ≤ costD l s d r ∧ costD l s d r ≤ 24 := by
  have := stopN_le (gD l s d) 0 r
  unfold costD
  split <;> omega
theorem costN_in (l : List Int) (r s : Nat) (hr : r ≤ 12) : 0 ≤ costN l r s ∧ costN l r s ≤ 48 := by
  have h1 := costD_in l s 1 r hr
  have h2 := costD_in l s (l.length - 1) r hr
  unfold costN
  omega
theorem phS_in (l : List Int) (p : Nat) (hp : 2 ^ p ≤ 12) (hl : l.length ≤ 12) : 0 ≤ phS l p ∧ phS l p ≤ 576 := by
  have h := sumTo_in (f := fun s => if alN l p s = true then costN l (2 ^ p) s else 0) (b := 48) (n := l.length) fun i hi => by
    have := costN_in l (2 ^ p) i hp
    split <;> omega
  unfold phS
  omega
end Go.Proofs.Ytgmknndmmpoliaa
