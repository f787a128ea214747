/-
  Interrupted jobs: what both sides compute.
-/
import Derived.Test.YtdggaeipfbacmaaMathBy
namespace Go.Proofs.Ytdggaeipfbacmaa
open Go.RowKit
set_option maxRecDepth 100000
set_option linter.unusedVariables false

/-- The work that is left. -/
def workJ : List Jb → Nat
  | [] => 0
  | y :: l => workJ l + y.l.toNat
/-- One tick less. -/
def lessJ (y : Jb) : Jb := ⟨y.t, y.c, y.l - 1⟩
/-- A job behind one more tick of it. -/
def nextJ (y : Jb) : Jb := if y.l = 1 then jbZ else lessJ y
def runP : Nat → Int → List Jb → List Int → List Int
  | 0, _, _, out => out
  | f + 1, tick, l, out => match pickOf (rkC (tickOf tick l)) (tickOf tick l) l with
    | none => out
    | some k => runP f (tickOf tick l + 1) (l.set k (nextJ l[k]!)) (if l[k]!.l = 1 then out.set k (tickOf tick l + 1) else out)
def endsOf (js : List Jb) : List Int := runP (workJ js) 0 js (List.replicate js.length 0)
def preOf (js : List Jb) : List Int × Bool := if areJb js then (endsOf js, true) else ([], false)
theorem runP_len (f : Nat) (tick : Int) (l : List Jb) (out : List Int) : (runP f tick l out).length = out.length := by
  induction f generalizing tick l out with
  | zero => rfl
  | succ f ih =>
    rw [runP]
    split
    · rfl
    · rw [ih]; split <;> simp
theorem endsOf_len (js : List Jb) : (endsOf js).length = js.length := by unfold endsOf; rw [runP_len]; simp
theorem preOf_len (js : List Jb) : (preOf js).1.length ≤ 1048576 := by
  unfold preOf
  split
  · rename_i h
    simp only
    rw [endsOf_len]
    have := (areJb_in h).1
    omega
  · simp
/-- What is left of jobs. -/
structure LeftP (js l : List Jb) : Prop where
  len : l.length = js.length
  at_ : ∀ k, k < js.length → (l[k]!.t = js[k]!.t ∧ l[k]!.c = js[k]!.c ∧ 1 ≤ l[k]!.l ∧ l[k]!.l ≤ 20) ∨ l[k]! = jbZ
theorem LeftP.start {js : List Jb} (hA : areJb js = true) : LeftP js js := ⟨rfl, fun k hk => .inl ⟨rfl, rfl, (tick_at hA hk).2.2.2.2⟩⟩
theorem LeftP.next {js l : List Jb} (h : LeftP js l) (k : Nat) (hk : k < js.length) (hj : isJ l[k]! = true) : LeftP js (l.set k (nextJ l[k]!)) := by
  refine ⟨by simp [h.len], fun j hj2 => ?_⟩
  rw [set_get l k _ j (by rw [h.len]; exact hk)]
  by_cases e : j = k
  · subst e
    rw [if_pos rfl]
    rcases h.at_ j hk with ⟨h1, h2, h3, h4⟩ | h1
    · unfold nextJ
      split
      · exact .inr rfl
      · exact .inl ⟨h1, h2, by show 1 ≤ l[j]!.l - 1; omega, by show l[j]!.l - 1 ≤ 20; omega⟩
    · rw [h1, isJ_zero] at hj; cases hj
  · rw [if_neg e]
    exact h.at_ j hj2
theorem workJ_set {l : List Jb} {k : Nat} (hk : k < l.length) (y : Jb) : workJ (l.set k y) + l[k]!.l.toNat = workJ l + y.l.toNat := by
  induction l generalizing k with
  | nil => simp at hk
  | cons z l ih =>
    cases k with
    | zero => simp [workJ]; omega
    | succ k =>
      have := ih (k := k) (by simp at hk; omega)
      simp only [List.set_cons_succ, workJ]
      have e : (z :: l)[k + 1]! = l[k]! := by simp
      rw [e]
      omega
theorem workJ_next {l : List Jb} {k : Nat} (hk : k < l.length) (h : 1 ≤ l[k]!.l) : workJ l = workJ (l.set k (nextJ l[k]!)) + 1 := by
  have h1 := workJ_set hk (nextJ l[k]!)
  have h2 : (nextJ l[k]!).l.toNat + 1 = l[k]!.l.toNat := by
    unfold nextJ
    split
    · rename_i e; rw [e]; rfl
    · show (l[k]!.l - 1).toNat + 1 = l[k]!.l.toNat; omega
  omega
theorem workJ_le {l : List Jb} (h : ∀ k, k < l.length → l[k]!.l ≤ 20) : workJ l ≤ 20 * l.length := by
  induction l with
  | nil => simp [workJ]
  | cons y l ih =>
    have h1 := ih (fun k hk => by simpa using h (k + 1) (by simp; omega))
    have h2 : y.l ≤ 20 := by simpa using h 0 (by simp)
    simp only [workJ, List.length_cons]
    omega
theorem workJ_cnt {js l : List Jb} (h : LeftP js l) : workJ l = 0 ↔ cntJ l = 0 := by
  have key : ∀ l : List Jb, (∀ k, k < l.length → (isJ l[k]! = true ∧ 1 ≤ l[k]!.l) ∨ l[k]! = jbZ) → (workJ l = 0 ↔ cntJ l = 0) := by
    intro l
    induction l with
    | nil => intro _; simp [workJ, cntJ]
    | cons y l ih =>
      intro h
      have h1 := ih (fun k hk => by simpa using h (k + 1) (by simp; omega))
      have h2 : (isJ y = true ∧ 1 ≤ y.l) ∨ y = jbZ := by simpa using h 0 (by simp)
      rcases h2 with ⟨h2, h3⟩ | h2
      · simp only [workJ, cntJ, h2, if_true]
        constructor
        · intro h9; omega
        · intro h9; omega
      · have h4 : isJ y = false := by rw [h2]; exact isJ_zero
        have h5 : y.l.toNat = 0 := by rw [h2]; rfl
        simp only [workJ, cntJ, h4, h5]
        simpa using h1
  refine key l fun k hk => ?_
  rcases h.at_ k (by rw [← h.len]; exact hk) with ⟨_, _, h3, _⟩ | h1
  · exact .inl ⟨isJ_ok h3, h3⟩
  · exact .inr h1
/-- What is known of the choice at the tick at which one can begin. -/
theorem stepP_of {js l : List Jb} {tick : Int} {rk : Int → Jb → Int} (hA : areJb js = true) (hL : LeftP js l) (hp : 0 < workJ l) (ht : 0 ≤ tick) :
    ∃ u f k, u < l.length ∧ isJ l[u]! = true ∧ (∀ j, j < u → isJ l[j]! = false) ∧ tickOf tick l = (if tick < l[u]!.t then l[u]!.t else tick) ∧ Fst (tickOf tick l) l f ∧
      pickOf (rk (tickOf tick l)) (tickOf tick l) l = some k ∧ k < l.length ∧ isJ l[k]! = true ∧ 0 ≤ tickOf tick l ∧ (tick ≤ tickOf tick l ∧ (tickOf tick l ≤ 1000 ∨ tickOf tick l = tick)) ∧
      (0 ≤ l[k]!.t ∧ l[k]!.t ≤ 1000 ∧ 0 ≤ l[k]!.c ∧ l[k]!.c ≤ 7 ∧ 1 ≤ l[k]!.l ∧ l[k]!.l ≤ 20) := by
  have hp' : 0 < cntJ l := by
    rcases Nat.eq_zero_or_pos (cntJ l) with h9 | h9
    · have := (workJ_cnt hL).2 h9; omega
    · exact h9
  obtain ⟨u, h1, h2, h3⟩ := cntJ_pos hp'
  have hbd : ∀ k, k < l.length → isJ l[k]! = true → 0 ≤ l[k]!.t ∧ l[k]!.t ≤ 1000 ∧ 0 ≤ l[k]!.c ∧ l[k]!.c ≤ 7 ∧ 1 ≤ l[k]!.l ∧ l[k]!.l ≤ 20 := by
    intro k hk hj
    have hk' : k < js.length := by rw [← hL.len]; exact hk
    have hb := tick_at hA hk'
    rcases hL.at_ k hk' with ⟨a1, a2, a3, a4⟩ | a1
    · rw [a1, a2]; omega
    · rw [a1, isJ_zero] at hj; cases hj
  have e := tickOf_at (tick := tick) h1 h2 h3
  have bu := hbd u h1 h2
  have hwu : isW (tickOf tick l) l[u]! = true := by rw [isW_t]; exact ⟨h2, by rw [e]; split <;> omega⟩
  have hfirst : ∃ f, Fst (tickOf tick l) l f := by
    have : ∀ m, m ≤ u + 1 → (∃ f, f < m ∧ isW (tickOf tick l) l[f]! = true ∧ ∀ j, j < f → isW (tickOf tick l) l[j]! = false) ∨ ∀ j, j < m → isW (tickOf tick l) l[j]! = false := by
      intro m
      induction m with
      | zero => intro _; exact .inr fun j hj => absurd hj (by omega)
      | succ m ih =>
        intro hm
        rcases ih (by omega) with ⟨f, h5, h6, h7⟩ | h5
        · exact .inl ⟨f, by omega, h6, h7⟩
        · cases hw : isW (tickOf tick l) l[m]!
          · refine .inr fun j hj => ?_
            by_cases e : j = m
            · rw [e]; exact hw
            · exact h5 j (by omega)
          · exact .inl ⟨m, by omega, hw, h5⟩
    rcases this (u + 1) (Nat.le_refl _) with ⟨f, h5, h6, h7⟩ | h5
    · exact ⟨f, by omega, h6, h7⟩
    · have := h5 u (by omega)
      rw [hwu] at this
      cases this
  obtain ⟨f, hf⟩ := hfirst
  cases hpk : pickOf (rk (tickOf tick l)) (tickOf tick l) l with
  | none =>
    have := bestOf_none hpk u h1
    simp only [hwu] at this
    cases this
  | some k =>
    obtain ⟨k1, k2⟩ := bestOf_some hpk
    have k3 := (isW_t.1 k2).1
    refine ⟨u, f, k, h1, h2, h3, e, hf, rfl, k1, k3, ?_, ⟨?_, ?_⟩, hbd k k1 k3⟩
    · rw [e]; split <;> omega
    · rw [e]; split <;> omega
    · rw [e]; split
      · exact .inl (by omega)
      · exact .inr rfl
theorem runP_step {f : Nat} {tick : Int} {l : List Jb} {out : List Int} {k : Nat} (h : pickOf (rkC (tickOf tick l)) (tickOf tick l) l = some k) :
    runP (f + 1) tick l out = runP f (tickOf tick l + 1) (l.set k (nextJ l[k]!)) (if l[k]!.l = 1 then out.set k (tickOf tick l + 1) else out) := by
  rw [runP, h]
theorem runP_tick {f : Nat} {t t' : Int} {l : List Jb} {out : List Int} (h : tickOf t l = tickOf t' l) : runP (f + 1) t l out = runP (f + 1) t' l out := by
  rw [runP, runP, h]
/-- The model's own list: the lengths that are left. -/
def lensJ (l : List Jb) : List Int := l.map (·.l)
theorem lensJ_len (l : List Jb) : (lensJ l).length = l.length := by simp [lensJ]
theorem lensJ_at (l : List Jb) (k : Nat) (hk : k < l.length) : (lensJ l).getD k 0 = l[k]!.l := by
  have h0 : k < (lensJ l).length := by rw [lensJ_len]; exact hk
  have h1 : (lensJ l).getD k 0 = (lensJ l)[k] := by rw [List.getD_eq_getElem?_getD, List.getElem?_eq_getElem h0]; rfl
  rw [h1, getElem!_pos l k hk]
  simp [lensJ]
theorem lensJ_set (l : List Jb) (k : Nat) (h : l[k]!.l = 1 ∨ l[k]!.l ≠ 1) : (lensJ l).set k (l[k]!.l - 1) = lensJ (l.set k (nextJ l[k]!)) := by
  unfold lensJ
  rw [List.map_set]
  congr 1
  unfold nextJ
  split
  · rename_i e; rw [e]; rfl
  · rfl
/-- A job waits in the model. -/
def wpB (js : List Jb) (lf : List Int) (now : Int) (i : Nat) : Bool := decide (0 < lf.getD i 0) && decide (js[i]!.t ≤ now)
theorem LeftP.waits {js l : List Jb} (h : LeftP js l) (T : Int) {k : Nat} (hk : k < js.length) : isW T l[k]! = wpB js (lensJ l) T k := by
  unfold isW wpB
  rw [lensJ_at l k (by rw [h.len]; exact hk)]
  rcases h.at_ k hk with ⟨h1, h2, h3, h4⟩ | h1
  · rw [isJ_ok h3, h1, decide_eq_true (p := 0 < l[k]!.l) (by omega)]
  · rw [h1, isJ_zero, decide_eq_false (p := 0 < jbZ.l) (by decide)]; rfl
theorem LeftP.pick {js l : List Jb} (h : LeftP js l) (T : Int) : pickOf (rkC T) T l = bestOf (wpB js (lensJ l) T) (fun i => js[i]!.c) js.length := by
  unfold pickOf
  rw [h.len]
  refine bestOf_congr (fun i hi => h.waits T hi) (fun i hi hw => ?_)
  have h1 : isJ l[i]! = true := (isW_t.1 hw).1
  rcases h.at_ i hi with ⟨_, h2, _⟩ | h2
  · exact h2
  · rw [h2, isJ_zero] at h1; cases h1
/-- None waits: the tick at which one can begin is later. -/
theorem LeftP.idle {js l : List Jb} (hA : areJb js = true) (h : LeftP js l) (hp : 0 < workJ l) (now : Int) (hn : bestOf (wpB js (lensJ l) now) (fun i => js[i]!.c) js.length = none) : tickOf (now + 1) l = tickOf now l ∧ now < 1000 := by
  have hp' : 0 < cntJ l := by
    rcases Nat.eq_zero_or_pos (cntJ l) with h9 | h9
    · have := (workJ_cnt h).2 h9; omega
    · exact h9
  obtain ⟨u, h1, h2, h3⟩ := cntJ_pos hp'
  have hu : u < js.length := by rw [← h.len]; exact h1
  have hw : isW now l[u]! = false := by rw [h.waits now hu]; exact bestOf_none hn u hu
  have hlt : now < l[u]!.t := by
    rcases Int.lt_or_le now l[u]!.t with h9 | h9
    · exact h9
    · have : isW now l[u]! = true := isW_t.2 ⟨h2, h9⟩
      rw [hw] at this; cases this
  rw [tickOf_at h1 h2 h3, tickOf_at h1 h2 h3]
  have hb := tick_at hA hu
  rcases h.at_ u hu with ⟨a1, _⟩ | a1
  · refine ⟨?_, by omega⟩
    rw [if_pos hlt]
    split <;> omega
  · rw [a1, isJ_zero] at h2; cases h2
/-- One waits: it is the tick. -/
theorem LeftP.busy {js l : List Jb} (hA : areJb js = true) (h : LeftP js l) (now : Int) {k : Nat} (hn : bestOf (wpB js (lensJ l) now) (fun i => js[i]!.c) js.length = some k) : tickOf now l = now := by
  obtain ⟨k1, k2⟩ := bestOf_some hn
  have hw : isW now l[k]! = true := by rw [h.waits now k1]; exact k2
  obtain ⟨j1, j2⟩ := isW_t.1 hw
  have hp : 0 < cntJ l := by
    rcases Nat.eq_zero_or_pos (cntJ l) with h9 | h9
    · have := cntJ_zero h9 k (by rw [h.len]; exact k1); rw [j1] at this; cases this
    · exact h9
  obtain ⟨u, h1, h2, h3⟩ := cntJ_pos hp
  have hu : u < js.length := by rw [← h.len]; exact h1
  have huk : u ≤ k := by
    rcases Nat.lt_or_ge k u with h9 | h9
    · have := h3 k h9; rw [j1] at this; cases this
    · exact h9
  have hm := tick_mono hA huk k1
  have hut : l[u]!.t = js[u]!.t := by
    rcases h.at_ u hu with ⟨a1, _⟩ | a1
    · exact a1
    · rw [a1, isJ_zero] at h2; cases h2
  have hkt : l[k]!.t = js[k]!.t := by
    rcases h.at_ k k1 with ⟨a1, _⟩ | a1
    · exact a1
    · rw [a1, isJ_zero] at j1; cases j1
  rw [tickOf_at h1 h2 h3, if_neg (by omega)]
end Go.Proofs.Ytdggaeipfbacmaa
