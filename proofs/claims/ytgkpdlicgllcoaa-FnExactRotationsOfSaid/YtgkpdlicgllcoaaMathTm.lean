/-
  Mathematics of timed rings: the visits one by one.
-/
import Derived.Test.YtgkpdlicgllcoaaSTimedRing
import Derived.Test.YtgkpdlicgllcoaaMathEl
import Derived.Test.YtgkpdlicgllcoaaIn
namespace Go.Proofs.Ytgkpdlicgllcoaa
open Go.RowKit
set_option maxRecDepth 100000
set_option linter.unusedVariables false

theorem getD_past {l : List Int} {j : Nat} (h : l.length ≤ j) : l.getD j 0 = 0 := by simp [List.getD, h]
/-- Is it a timed ring? -/
def tmOk (x : Tm) : Bool := decide (1 ≤ x.d.length ∧ x.d.length ≤ 12) && (wi x.t 1 200 && (wi x.k 1 20 && (okAll 0 200 x.d && decide (x.k * x.d.length + sumL x.d ≤ x.t))))
theorem tmOk_in {x : Tm} (h : tmOk x = true) : (1 ≤ x.d.length ∧ x.d.length ≤ 12) ∧ (1 ≤ x.t ∧ x.t ≤ 200) ∧ (1 ≤ x.k ∧ x.k ≤ 20) ∧ okAll 0 200 x.d = true ∧ x.k * x.d.length + sumL x.d ≤ x.t := by
  simpa [tmOk, wi] using h
def usedT (x : Tm) : Int := x.k * x.d.length + sumL x.d
def rbSays (x : Tm) : Int × Bool := if tmOk x = true then (2 * x.t, true) else (0, false)
def shareSays (x : Tm) : Int × Bool := if tmOk x = true then (x.t - usedT x, true) else (0, false)
def fwSays (x : Tm) (s k : Int) : Int × Bool := if (tmOk x && (wi s 0 ((x.d.length : Int) - 1) && wi k 0 100000)) = true then (x.d.getD s.toNat 0 * (1 + k.tdiv (2 * x.t)), true) else (0, false)
/-- Are these wishes? -/
def wishOk (n : Nat) (L : List (List Int)) : Bool := decide (L.length ≤ 20) && L.all fun l => decide (l.length = n) && okAll 0 200 l
def askT (x : Tm) (L : List (List Int)) : Bool := tmOk x && wishOk x.d.length L
theorem wishOk_len {n : Nat} {L : List (List Int)} (h : wishOk n L = true) : L.length ≤ 20 := by simp only [wishOk, Bool.and_eq_true, decide_eq_true_eq] at h; exact h.1
theorem wishOk_at {n : Nat} {L : List (List Int)} (h : wishOk n L = true) (j : Nat) (hj : j < L.length) : (L.getD j []).length = n ∧ okAll 0 200 (L.getD j []) = true := by
  simp only [wishOk, Bool.and_eq_true, decide_eq_true_eq, List.all_eq_true] at h
  have := h.2 (L.getD j []) (by simp [List.getD, hj])
  exact this
/-- The tick and the last visits ahead of the station s of a round with these wishes, they being so ahead of the round. -/
def stT (x : Tm) (l : List Int) (p : Int × List Int) : Nat → Int × List Int
  | 0 => p
  | s + 1 => ((stT x l p s).1 + x.d.getD s 0 + min (l.getD s 0) (max 0 (x.t - ((stT x l p s).1 - (stT x l p s).2.getD s 0))) + x.k, (stT x l p s).2.set s (stT x l p s).1)
/-- The free frames of a visit. -/
def frT (x : Tm) (l : List Int) (p : Int × List Int) (s : Nat) : Int := min (l.getD s 0) (max 0 (x.t - ((stT x l p s).1 - (stT x l p s).2.getD s 0)))
/-- The ticks since the last one. -/
def goT (x : Tm) (l : List Int) (p : Int × List Int) (s : Nat) : Int := (stT x l p s).1 - (stT x l p s).2.getD s 0
theorem stT_succ (x : Tm) (l : List Int) (p : Int × List Int) (s : Nat) : stT x l p (s + 1) = ((stT x l p s).1 + x.d.getD s 0 + frT x l p s + x.k, (stT x l p s).2.set s (stT x l p s).1) := rfl
/-- The visits ahead of the first round. -/
def aheadT (x : Tm) : List Int := (List.range x.d.length).map fun s : Nat => ((s : Int) - x.d.length) * x.k
/-- The state ahead of the round r. -/
def rdT (x : Tm) (L : List (List Int)) : Nat → Int × List Int
  | 0 => (0, aheadT x)
  | r + 1 => stT x (L.getD r []) (rdT x L r) x.d.length
theorem rdT_succ (x : Tm) (L : List (List Int)) (r : Nat) : rdT x L (r + 1) = stT x (L.getD r []) (rdT x L r) x.d.length := rfl
theorem stT_len (x : Tm) (l : List Int) (p : Int × List Int) (s : Nat) : (stT x l p s).2.length = p.2.length := by
  induction s with
  | zero => rfl
  | succ s ih => rw [stT_succ]; simp [ih]
theorem rdT_len (x : Tm) (L : List (List Int)) (r : Nat) : (rdT x L r).2.length = x.d.length := by
  induction r with
  | zero => simp [rdT, aheadT]
  | succ r ih => rw [rdT_succ, stT_len, ih]
/-- A visit's row. -/
def vrow (x : Tm) (L : List (List Int)) (r s : Nat) : List Int := [(stT x (L.getD r []) (rdT x L r) s).1, (s : Int), frT x (L.getD r []) (rdT x L r) s]
/-- The rows of the first s visits of the round r, and of the rounds ahead of r. -/
def vrS (x : Tm) (L : List (List Int)) (r s : Nat) : List (List Int) := (List.range s).map (vrow x L r)
def vrR (x : Tm) (L : List (List Int)) : Nat → List (List Int)
  | 0 => []
  | r + 1 => vrR x L r ++ vrS x L r x.d.length
def goS (x : Tm) (L : List (List Int)) (r s : Nat) : List Int := (List.range s).map (goT x (L.getD r []) (rdT x L r))
def goR (x : Tm) (L : List (List Int)) : Nat → List Int
  | 0 => []
  | r + 1 => goR x L r ++ goS x L r x.d.length
theorem vrS_succ (x : Tm) (L : List (List Int)) (r s : Nat) : vrS x L r (s + 1) = vrS x L r s ++ [vrow x L r s] := by simp [vrS, List.range_succ]
theorem goS_succ (x : Tm) (L : List (List Int)) (r s : Nat) : goS x L r (s + 1) = goS x L r s ++ [goT x (L.getD r []) (rdT x L r) s] := by simp [goS, List.range_succ]
theorem vrS_length (x : Tm) (L : List (List Int)) (r s : Nat) : (vrS x L r s).length = s := by simp [vrS]
theorem goS_length (x : Tm) (L : List (List Int)) (r s : Nat) : (goS x L r s).length = s := by simp [goS]
theorem vrR_length (x : Tm) (L : List (List Int)) (r : Nat) : (vrR x L r).length = r * x.d.length := by
  induction r with
  | zero => simp [vrR]
  | succ r ih => simp only [vrR, List.length_append, ih, vrS_length]; rw [Nat.succ_mul]
theorem goR_length (x : Tm) (L : List (List Int)) (r : Nat) : (goR x L r).length = r * x.d.length := by
  induction r with
  | zero => simp [goR]
  | succ r ih => simp only [goR, List.length_append, ih, goS_length]; rw [Nat.succ_mul]
def tvSays (x : Tm) (L : List (List Int)) : List (List Int) × Bool := if askT x L = true then (vrR x L L.length, true) else ([], false)
/-- The rotations. -/
def rotT (x : Tm) (L : List (List Int)) : List Int := (goR x L L.length).drop x.d.length
def rotSays (x : Tm) (L : List (List Int)) : List Int × Bool := if askT x L = true then (rotT x L, true) else ([], false)
def mostL : List Int → Int
  | [] => 0
  | a :: l => max a (mostL l)
def grSays (x : Tm) (L : List (List Int)) : Int × Bool := if askT x L = true then ((rotT x L).foldl max 0, true) else (0, false)
/-- Bounds of what comes up. -/
theorem frT_in (x : Tm) (l : List Int) (p : Int × List Int) (s : Nat) (h : 0 ≤ l.getD s 0 ∧ l.getD s 0 ≤ 200) : 0 ≤ frT x l p s ∧ frT x l p s ≤ 200 := by
  unfold frT
  omega
theorem getD_set_any (l : List Int) (i j : Nat) (a : Int) : (l.set i a).getD j 0 = a ∨ (l.set i a).getD j 0 = l.getD j 0 := by
  simp only [List.getD_eq_getElem?_getD, List.getElem?_set]
  by_cases h : i = j
  · subst h
    by_cases h2 : i < l.length
    · left; simp [h2]
    · right; simp [h2]
  · right; simp [h]
theorem stT_in {x : Tm} {l : List Int} {p : Int × List Int} {T : Int} (hx : tmOk x = true) (hl : ∀ j, 0 ≤ l.getD j 0 ∧ l.getD j 0 ≤ 200)
    (hp : 0 ≤ p.1 ∧ p.1 ≤ T) (hq : ∀ j, -240 ≤ p.2.getD j 0 ∧ p.2.getD j 0 ≤ T) (s : Nat) :
    (0 ≤ (stT x l p s).1 ∧ (stT x l p s).1 ≤ T + 420 * s) ∧ (∀ j, -240 ≤ (stT x l p s).2.getD j 0 ∧ (stT x l p s).2.getD j 0 ≤ T + 420 * s) := by
  have hin := tmOk_in hx
  induction s with
  | zero => simp only [stT]; exact ⟨by omega, fun j => by have := hq j; omega⟩
  | succ s ih =>
    have h1 := hl s
    have h2 : 0 ≤ x.d.getD s 0 ∧ x.d.getD s 0 ≤ 200 := by
      rcases Nat.lt_or_ge s x.d.length with hs | hs
      · exact okAll_at hin.2.2.2.1 s hs
      · rw [show x.d.getD s 0 = 0 from by simp [List.getD, hs]]; omega
    have h3 := frT_in x l p s h1
    rw [stT_succ]
    refine ⟨by simp only; omega, fun j => ?_⟩
    simp only
    have h4 := ih.2 j
    have h5 := ih.1
    rcases getD_set_any (stT x l p s).2 s j (stT x l p s).1 with e | e
    · rw [e]; omega
    · rw [e]; omega
theorem aheadT_at (x : Tm) (j : Nat) (hj : j < x.d.length) : (aheadT x).getD j 0 = ((j : Int) - x.d.length) * x.k := by simp [aheadT, List.getD, hj]
theorem aheadT_in {x : Tm} (hx : tmOk x = true) (j : Nat) : -240 ≤ (aheadT x).getD j 0 ∧ (aheadT x).getD j 0 ≤ 0 := by
  have hin := tmOk_in hx
  rcases Nat.lt_or_ge j x.d.length with hj | hj
  · rw [aheadT_at x j hj]
    have h1 := Int.mul_le_mul_of_nonneg_right (show ((j : Int) - x.d.length) ≤ 0 by omega) (show 0 ≤ x.k by omega)
    have h2 := Int.mul_le_mul_of_nonneg_right (show -12 ≤ ((j : Int) - x.d.length) by omega) (show 0 ≤ x.k by omega)
    omega
  · rw [show (aheadT x).getD j 0 = 0 from by simp [List.getD, aheadT, hj]]; omega
theorem wishD {n : Nat} {L : List (List Int)} (h : wishOk n L = true) (r j : Nat) : 0 ≤ (L.getD r []).getD j 0 ∧ (L.getD r []).getD j 0 ≤ 200 := by
  rcases Nat.lt_or_ge r L.length with hr | hr
  · have := wishOk_at h r hr
    rcases Nat.lt_or_ge j (L.getD r []).length with hj | hj
    · exact okAll_at this.2 j hj
    · rw [getD_past hj]; omega
  · rw [show (L.getD r []) = [] from by simp [List.getD, hr]]; simp
theorem rdT_in {x : Tm} {L : List (List Int)} (hx : tmOk x = true) (hL : wishOk x.d.length L = true) (r : Nat) :
    (0 ≤ (rdT x L r).1 ∧ (rdT x L r).1 ≤ 5040 * r) ∧ (∀ j, -240 ≤ (rdT x L r).2.getD j 0 ∧ (rdT x L r).2.getD j 0 ≤ 5040 * r) := by
  have hin := tmOk_in hx
  induction r with
  | zero => simp only [rdT]; exact ⟨by omega, fun j => by have := aheadT_in hx j; omega⟩
  | succ r ih =>
    rw [rdT_succ]
    have h := stT_in hx (fun j => wishD hL r j) ih.1 ih.2 x.d.length
    exact ⟨by omega, fun j => by have := h.2 j; omega⟩
/-- All that comes up at a visit. -/
theorem visit_in {x : Tm} {L : List (List Int)} (h : askT x L = true) (r s : Nat) (hr : r < L.length) (hs : s ≤ x.d.length) :
    (0 ≤ (stT x (L.getD r []) (rdT x L r) s).1 ∧ (stT x (L.getD r []) (rdT x L r) s).1 ≤ 110000) ∧ (∀ j, -240 ≤ (stT x (L.getD r []) (rdT x L r) s).2.getD j 0 ∧ (stT x (L.getD r []) (rdT x L r) s).2.getD j 0 ≤ 110000) ∧
    (0 ≤ frT x (L.getD r []) (rdT x L r) s ∧ frT x (L.getD r []) (rdT x L r) s ≤ 200) := by
  simp only [askT, Bool.and_eq_true] at h
  have hin := tmOk_in h.1
  have hlen := wishOk_len h.2
  have h1 := rdT_in h.1 h.2 r
  have h2 := stT_in h.1 (fun j => wishD h.2 r j) h1.1 h1.2 s
  exact ⟨by omega, fun j => by have := h2.2 j; omega, frT_in _ _ _ _ (wishD h.2 r s)⟩
end Go.Proofs.Ytgkpdlicgllcoaa
