/-
  Starts of a line: what both sides compute.
-/
import Derived.Test.YteoggoopfjkdkaaPick
namespace Go.Proofs.Yteoggoopfjkdkaa
open Go.RowKit
set_option maxRecDepth 100000
set_option linter.unusedVariables false

def jbZ : Jb := ⟨0, 0, 0⟩
/-- How many are left. -/
def cntJ : List Jb → Nat
  | [] => 0
  | y :: l => cntJ l + if isJ y then 1 else 0
/-- The tick at which one of those that are left can begin. -/
def tickOf (tick : Int) : List Jb → Int
  | [] => tick
  | y :: l => if isJ y then (if tick < y.t then y.t else tick) else tickOf tick l
theorem tickOf_at {tick : Int} {l : List Jb} {k : Nat} (hk : k < l.length) (h : isJ l[k]! = true) (hl : ∀ j, j < k → isJ l[j]! = false) : tickOf tick l = if tick < l[k]!.t then l[k]!.t else tick := by
  induction l generalizing k with
  | nil => simp at hk
  | cons y l ih =>
    cases k with
    | zero =>
      have h1 : isJ y = true := by simpa using h
      simp [tickOf, h1]
    | succ k =>
      have h1 : isJ y = false := by simpa using hl 0 (by omega)
      have h2 := ih (k := k) (by simp at hk; omega) (by simpa using h) (fun j hj => by simpa using hl (j + 1) (by omega))
      rw [tickOf, h1]
      simpa using h2
theorem cntJ_set {l : List Jb} {k : Nat} (hk : k < l.length) (h : isJ l[k]! = true) : cntJ l = cntJ (l.set k jbZ) + 1 := by
  induction l generalizing k with
  | nil => simp at hk
  | cons y l ih =>
    cases k with
    | zero =>
      have h1 : isJ y = true := by simpa using h
      have h2 : isJ jbZ = false := by decide
      simp [cntJ, h1, h2]
    | succ k =>
      have := ih (k := k) (by simp at hk; omega) (by simpa using h)
      simp only [List.set_cons_succ, cntJ]
      omega
theorem cntJ_zero {l : List Jb} (h : cntJ l = 0) : ∀ j, j < l.length → isJ l[j]! = false := by
  induction l with
  | nil => intro j hj; simp at hj
  | cons y l ih =>
    intro j hj
    simp only [cntJ] at h
    cases hy : isJ y
    · rw [hy] at h
      cases j with
      | zero => simpa using hy
      | succ j => simpa using ih (by simpa using h) j (by simp at hj; omega)
    · rw [hy] at h
      simp at h
theorem cntJ_none {l : List Jb} (h : ∀ j, j < l.length → isJ l[j]! = false) : cntJ l = 0 := by
  induction l with
  | nil => rfl
  | cons y l ih =>
    have h1 : isJ y = false := by simpa using h 0 (by simp)
    have h2 := ih (fun j hj => by simpa using h (j + 1) (by simp; omega))
    simp [cntJ, h1, h2]
theorem cntJ_le (l : List Jb) : cntJ l ≤ l.length := by
  induction l with
  | nil => simp [cntJ]
  | cons y l ih => simp only [cntJ, List.length_cons]; split <;> omega
theorem cntJ_all {l : List Jb} (h : ∀ y ∈ l, isJ y = true) : cntJ l = l.length := by
  induction l with
  | nil => rfl
  | cons y l ih =>
    have := ih (fun y hy => h y (List.mem_cons_of_mem _ hy))
    simp [cntJ, h y (List.mem_cons_self ..), this]
/-- There is one left, the first one of them. -/
theorem cntJ_pos {l : List Jb} (h : 0 < cntJ l) : ∃ k, k < l.length ∧ isJ l[k]! = true ∧ ∀ j, j < k → isJ l[j]! = false := by
  induction l with
  | nil => simp [cntJ] at h
  | cons y l ih =>
    cases hy : isJ y
    · simp only [cntJ, hy] at h
      obtain ⟨k, h1, h2, h3⟩ := ih (by simpa using h)
      refine ⟨k + 1, by simp; omega, by simpa using h2, fun j hj => ?_⟩
      cases j with
      | zero => simpa using hy
      | succ j => simpa using h3 j (by omega)
    · exact ⟨0, by simp, by simpa using hy, fun j hj => absurd hj (by omega)⟩
theorem set_get (l : List Jb) (k : Nat) (x : Jb) (j : Nat) (hk : k < l.length) : (l.set k x)[j]! = if j = k then x else l[j]! := by
  simp only [List.getElem!_eq_getElem?_getD, List.getElem?_set]
  by_cases e : k = j
  · subst e
    simp [hk]
  · simp [e, Ne.symm e]
/-- The starts from here on. -/
def runL (rk : Int → Jb → Int) : Nat → Int → List Jb → List Int → List Int
  | 0, _, _, out => out
  | f + 1, tick, l, out => match pickOf (rk (tickOf tick l)) (tickOf tick l) l with
    | none => out
    | some k => runL rk f (tickOf tick l + l[k]!.l) (l.set k jbZ) (out.set k (tickOf tick l))
/-- What is left of jobs: they are as they were, or the empty one. -/
def LeftOf (js l : List Jb) : Prop := l.length = js.length ∧ ∀ k, k < js.length → l[k]! = js[k]! ∨ l[k]! = jbZ
theorem LeftOf.refl (js : List Jb) : LeftOf js js := ⟨rfl, fun k hk => .inl rfl⟩
theorem LeftOf.set {js l : List Jb} (h : LeftOf js l) (k : Nat) (hk : k < js.length) : LeftOf js (l.set k jbZ) := by
  refine ⟨by simp [h.1], fun j hj => ?_⟩
  rw [set_get l k jbZ j (by rw [h.1]; exact hk)]
  split
  · exact .inr rfl
  · exact h.2 j hj
theorem isJ_zero : isJ jbZ = false := by decide
theorem LeftOf.is {js l : List Jb} (h : LeftOf js l) {k : Nat} (hk : k < js.length) (hj : isJ l[k]! = true) : l[k]! = js[k]! := by
  rcases h.2 k hk with h1 | h1
  · exact h1
  · rw [h1, isJ_zero] at hj; cases hj
theorem isJ_ok {y : Jb} (h : 1 ≤ y.l) : isJ y = true := by
  have : y.l ≠ 0 := by omega
  simp [isJ, this]
theorem isW_t {tick : Int} {y : Jb} : isW tick y = true ↔ isJ y = true ∧ y.t ≤ tick := by simp [isW]
/-- What is known of the choice at the tick at which one can begin. -/
theorem step_of {js l : List Jb} {tick : Int} {rk : Int → Jb → Int} (hA : areJb js = true) (hL : LeftOf js l) (hp : 0 < cntJ l) (ht : 0 ≤ tick) :
    ∃ u f k, u < l.length ∧ isJ l[u]! = true ∧ (∀ j, j < u → isJ l[j]! = false) ∧ tickOf tick l = (if tick < l[u]!.t then l[u]!.t else tick) ∧ Fst (tickOf tick l) l f ∧
      pickOf (rk (tickOf tick l)) (tickOf tick l) l = some k ∧ k < l.length ∧ isJ l[k]! = true ∧ 0 ≤ tickOf tick l ∧ (tick ≤ tickOf tick l ∧ (tickOf tick l ≤ 1000 ∨ tickOf tick l = tick)) ∧
      (0 ≤ l[k]!.t ∧ l[k]!.t ≤ 1000 ∧ 0 ≤ l[k]!.c ∧ l[k]!.c ≤ 7 ∧ 1 ≤ l[k]!.l ∧ l[k]!.l ≤ 20) := by
  obtain ⟨hn, hb, _⟩ := areJb_in hA
  obtain ⟨u, h1, h2, h3⟩ := cntJ_pos hp
  have hbd : ∀ k, k < l.length → isJ l[k]! = true → 0 ≤ l[k]!.t ∧ l[k]!.t ≤ 1000 ∧ 0 ≤ l[k]!.c ∧ l[k]!.c ≤ 7 ∧ 1 ≤ l[k]!.l ∧ l[k]!.l ≤ 20 := by
    intro k hk hj
    have hk' : k < js.length := by rw [← hL.1]; exact hk
    rw [hL.is hk' hj, getElem!_pos js k hk']
    exact hb _ (List.getElem_mem hk')
  have e := tickOf_at (tick := tick) h1 h2 h3
  have bu := hbd u h1 h2
  have hwu : isW (tickOf tick l) l[u]! = true := by rw [isW_t]; exact ⟨h2, by rw [e]; split <;> omega⟩
  have hfirst : ∃ f, Fst (tickOf tick l) l f := by
    have : ∀ m, m ≤ u + 1 → (∃ f, f < m ∧ isW (tickOf tick l) l[f]! = true ∧ ∀ j, j < f → isW (tickOf tick l) l[j]! = false) ∨ ∀ j, j < m → isW (tickOf tick l) l[j]! = false := by
      intro m
      induction m with
      | zero => intro _; exact .inr fun j hj => absurd hj (by omega)
      | succ m ih =>
        intro hm
        rcases ih (by omega) with ⟨f, h5, h6, h7⟩ | h5
        · exact .inl ⟨f, by omega, h6, h7⟩
        · cases hw : isW (tickOf tick l) l[m]!
          · refine .inr fun j hj => ?_
            by_cases e : j = m
            · rw [e]; exact hw
            · exact h5 j (by omega)
          · exact .inl ⟨m, by omega, hw, h5⟩
    rcases this (u + 1) (Nat.le_refl _) with ⟨f, h5, h6, h7⟩ | h5
    · exact ⟨f, by omega, h6, h7⟩
    · have := h5 u (by omega)
      rw [hwu] at this
      cases this
  obtain ⟨f, hf⟩ := hfirst
  cases hpk : pickOf (rk (tickOf tick l)) (tickOf tick l) l with
  | none =>
    have := bestOf_none hpk u h1
    simp only [hwu] at this
    cases this
  | some k =>
    obtain ⟨k1, k2⟩ := bestOf_some hpk
    have k3 := (isW_t.1 k2).1
    refine ⟨u, f, k, h1, h2, h3, e, hf, rfl, k1, k3, ?_, ⟨?_, ?_⟩, hbd k k1 k3⟩
    · rw [e]; split <;> omega
    · rw [e]; split <;> omega
    · rw [e]; split
      · exact .inl (by omega)
      · exact .inr rfl
theorem runL_step {rk : Int → Jb → Int} {f : Nat} {tick : Int} {l : List Jb} {out : List Int} {k : Nat} (h : pickOf (rk (tickOf tick l)) (tickOf tick l) l = some k) :
    runL rk (f + 1) tick l out = runL rk f (tickOf tick l + l[k]!.l) (l.set k jbZ) (out.set k (tickOf tick l)) := by
  rw [runL, h]
/-- The starts of jobs. -/
def startsOf (rk : Int → Jb → Int) (js : List Jb) : List Int := runL rk js.length 0 js (List.replicate js.length 0)
theorem runL_len (rk : Int → Jb → Int) (f : Nat) (tick : Int) (l : List Jb) (out : List Int) : (runL rk f tick l out).length = out.length := by
  induction f generalizing tick l out with
  | zero => rfl
  | succ f ih =>
    rw [runL]
    split
    · rfl
    · rw [ih]; simp
theorem startsOf_len (rk : Int → Jb → Int) (js : List Jb) : (startsOf rk js).length = js.length := by unfold startsOf; rw [runL_len]; simp
def rk0 (_ : Int) (_ : Jb) : Int := 0
def rkC (_ : Int) (y : Jb) : Int := y.c
def rkA (step tick : Int) (y : Jb) : Int := agedC tick step y
def firstOf (js : List Jb) : List Int × Bool := if areJb js then (startsOf rk0 js, true) else ([], false)
def strictOf (js : List Jb) : List Int × Bool := if areJb js then (startsOf rkC js, true) else ([], false)
def agedOf (js : List Jb) (step : Int) : List Int × Bool := if areJb js && wi step 1 100 then (startsOf (rkA step) js, true) else ([], false)
theorem startsOf_len2 {rk : Int → Jb → Int} {js : List Jb} (h : areJb js = true) : (startsOf rk js).length ≤ 1048576 := by
  rw [startsOf_len]
  have := (areJb_in h).1
  omega
theorem firstOf_len (js : List Jb) : (firstOf js).1.length ≤ 1048576 := by
  unfold firstOf
  split
  · rename_i h; exact startsOf_len2 h
  · simp
theorem strictOf_len (js : List Jb) : (strictOf js).1.length ≤ 1048576 := by
  unfold strictOf
  split
  · rename_i h; exact startsOf_len2 h
  · simp
theorem agedOf_len (js : List Jb) (step : Int) : (agedOf js step).1.length ≤ 1048576 := by
  unfold agedOf
  split
  · rename_i h
    simp only [Bool.and_eq_true] at h
    exact startsOf_len2 h.1
  · simp
end Go.Proofs.Yteoggoopfjkdkaa
