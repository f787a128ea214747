/-
  Classes that take turns: what both sides compute.
-/
import Derived.Test.YteoggoopfjkdkaaMathBy
namespace Go.Proofs.Yteoggoopfjkdkaa
open Go.RowKit
set_option maxRecDepth 100000
set_option linter.unusedVariables false

def setC (cr : Nat → Int) (tc : Nat) (x : Int) : Nat → Int := fun c => if c = tc then x else cr c
theorem setC_same (cr : Nat → Int) (tc : Nat) (x : Int) : setC cr tc x tc = x := by simp [setC]
theorem setC_ne (cr : Nat → Int) {tc c : Nat} (x : Int) (h : c ≠ tc) : setC cr tc x c = cr c := by simp [setC, h]
/-- The credits when the turn has begun. -/
def crB (gr : List Int) (tc : Nat) (tb : Bool) (cr : Nat → Int) : Nat → Int := if tb then cr else setC cr tc (cr tc + gr.getD tc 0)
def nextC (tc : Nat) : Nat := (tc + 7) % 8
/-- The first one that waits of a class. -/
def firstC (T : Int) (tc : Nat) (l : List Jb) : Option Nat := bestOf (fun i => isW T l[i]! && decide (l[i]!.c = tc)) (fun _ => 0) l.length
def stepR (gr : List Int) (pr : Jb → Int) (K : Int → List Jb → List Int → Nat → Bool → (Nat → Int) → List Int) (T : Int) (l : List Jb) (out : List Int) (tc : Nat) (tb : Bool) (cr : Nat → Int) : List Int :=
  match firstC T tc l with
  | none => K T l out (nextC tc) false (setC (crB gr tc tb cr) tc 0)
  | some i => if crB gr tc tb cr tc < pr l[i]! then K T l out (nextC tc) false (crB gr tc tb cr)
      else K (T + l[i]!.l) (l.set i jbZ) (out.set i T) tc true (setC (crB gr tc tb cr) tc (crB gr tc tb cr tc - pr l[i]!))
def nTc (tick : Int) (l : List Jb) (tc : Nat) : Nat := if tick < tickOf tick l then 7 else tc
def nTb (tick : Int) (l : List Jb) (tb : Bool) : Bool := if tick < tickOf tick l then false else tb
def nCr (tick : Int) (l : List Jb) (cr : Nat → Int) : Nat → Int := if tick < tickOf tick l then fun _ => 0 else cr
def runT (gr : List Int) (pr : Jb → Int) : Nat → Int → List Jb → List Int → Nat → Bool → (Nat → Int) → List Int
  | 0, _, _, out, _, _, _ => out
  | f + 1, tick, l, out, tc, tb, cr => if cntJ l = 0 then out else stepR gr pr (runT gr pr f) (tickOf tick l) l out (nTc tick l tc) (nTb tick l tb) (nCr tick l cr)
theorem runT_on (gr : List Int) (pr : Jb → Int) (f : Nat) (tick : Int) (l : List Jb) (out : List Int) (tc : Nat) (tb : Bool) (cr : Nat → Int) (h : cntJ l ≠ 0) :
    runT gr pr (f + 1) tick l out tc tb cr = stepR gr pr (runT gr pr f) (tickOf tick l) l out (nTc tick l tc) (nTb tick l tb) (nCr tick l cr) := by
  rw [runT, if_neg h]
theorem runT_off (gr : List Int) (pr : Jb → Int) (f : Nat) (tick : Int) (l : List Jb) (out : List Int) (tc : Nat) (tb : Bool) (cr : Nat → Int) (h : cntJ l = 0) :
    runT gr pr f tick l out tc tb cr = out := by
  cases f with
  | zero => rfl
  | succ f => rw [runT, if_pos h]
theorem norm_at {T : Int} {l : List Jb} (h : tickOf T l = T) (tc : Nat) (tb : Bool) (cr : Nat → Int) : nTc T l tc = tc ∧ nTb T l tb = tb ∧ nCr T l cr = cr := by
  unfold nTc nTb nCr
  rw [h]
  simp
/-- At its own tick a state is as it is. -/
theorem runT_norm (gr : List Int) (pr : Jb → Int) (f : Nat) (tick : Int) (l : List Jb) (out : List Int) (tc : Nat) (tb : Bool) (cr : Nat → Int) (h : tickOf (tickOf tick l) l = tickOf tick l) :
    runT gr pr f tick l out tc tb cr = runT gr pr f (tickOf tick l) l out (nTc tick l tc) (nTb tick l tb) (nCr tick l cr) := by
  cases f with
  | zero => rfl
  | succ f =>
    obtain ⟨h1, h2, h3⟩ := norm_at h (nTc tick l tc) (nTb tick l tb) (nCr tick l cr)
    rw [runT, runT, h, h1, h2, h3]
theorem tickOf_idem {l : List Jb} (tick : Int) : tickOf (tickOf tick l) l = tickOf tick l := by
  rcases Nat.eq_zero_or_pos (cntJ l) with h0 | h0
  · have key : ∀ (l : List Jb) (t : Int), cntJ l = 0 → tickOf t l = t := by
      intro l
      induction l with
      | nil => intro t _; rfl
      | cons y l ih =>
        intro t h
        simp only [cntJ] at h
        cases hy : isJ y
        · rw [tickOf, hy]; simp only [Bool.false_eq_true, if_false]; exact ih t (by omega)
        · rw [hy] at h; simp at h
    rw [key l tick h0, key l tick h0]
  · obtain ⟨u, h1, h2, h3⟩ := cntJ_pos h0
    rw [tickOf_at h1 h2 h3, tickOf_at h1 h2 h3]
    repeat' split
    all_goals omega
def msr (c0 tc : Nat) (tb : Bool) (cr : Nat → Int) : Nat := 8 * (20 - cr c0).toNat + (tc + 8 - c0) % 8 + (if tb then 8 else 0)
/-- There is fuel enough. -/
def FuN (f : Nat) (T : Int) (l : List Jb) (tc : Nat) (tb : Bool) (cr : Nat → Int) : Prop := ∀ f0, Fst T l f0 → 176 * (cntJ l - 1) + msr l[f0]!.c.toNat tc tb cr + 1 ≤ f
def Fu (f : Nat) (tick : Int) (l : List Jb) (tc : Nat) (tb : Bool) (cr : Nat → Int) : Prop := FuN f (tickOf tick l) l (nTc tick l tc) (nTb tick l tb) (nCr tick l cr)
theorem msr_bd {c0 tc : Nat} {tb : Bool} {cr : Nat → Int} (h : 0 ≤ cr c0) : msr c0 tc tb cr ≤ 175 := by
  unfold msr
  have h1 : (20 - cr c0).toNat ≤ 20 := by omega
  have h2 : (tc + 8 - c0) % 8 < 8 := Nat.mod_lt _ (by omega)
  split <;> omega
theorem isW_cnt {T : Int} {l : List Jb} {k : Nat} (hk : k < l.length) (h : isW T l[k]! = true) : 0 < cntJ l := by
  rcases Nat.eq_zero_or_pos (cntJ l) with h0 | h0
  · have := cntJ_zero h0 k hk
    rw [(isW_t.1 h).1] at this; cases this
  · exact h0
/-- Bounds of credits. -/
def Cb (f : Nat) (cr : Nat → Int) : Prop := ∀ c, c < 8 → 0 ≤ cr c ∧ cr c ≤ 40 * (4000 - (f : Int))
theorem Cb.zero {f : Nat} (h : f ≤ 4000) : Cb f (fun _ => 0) := fun c hc => by simp only; omega
theorem crB_bd {gr : List Int} {f : Nat} {tc : Nat} {tb : Bool} {cr : Nat → Int} (hg : ∀ c, c < 8 → 1 ≤ gr.getD c 0 ∧ gr.getD c 0 ≤ 40) (htc : tc < 8) (h : Cb (f + 1) cr) : Cb f (crB gr tc tb cr) := by
  intro c hc
  have h1 := h c hc
  have h2 := h tc htc
  have h3 := hg tc htc
  by_cases hb : tb = true
  · have e : crB gr tc tb cr = cr := by simp [crB, hb]
    rw [e]
    omega
  · have e : crB gr tc tb cr c = if c = tc then cr tc + gr.getD tc 0 else cr c := by simp [crB, hb, setC]
    rw [e]
    split <;> omega
theorem Cb.set {f : Nat} {cr : Nat → Int} {tc : Nat} {x : Int} (h : Cb f cr) (htc : tc < 8) (h0 : 0 ≤ x) (h1 : x ≤ cr tc) : Cb f (setC cr tc x) := by
  intro c hc
  have h2 := h c hc
  have h3 := h tc htc
  have e : setC cr tc x c = if c = tc then x else cr c := rfl
  rw [e]
  split
  · omega
  · exact h2
theorem nextC_lt (tc : Nat) : nextC tc < 8 := Nat.mod_lt _ (by omega)
theorem firstC_some {T : Int} {tc : Nat} {l : List Jb} {i : Nat} (h : firstC T tc l = some i) : i < l.length ∧ isW T l[i]! = true ∧ l[i]!.c = tc := by
  obtain ⟨h1, h2⟩ := bestOf_some h
  simp only [Bool.and_eq_true, decide_eq_true_eq] at h2
  exact ⟨h1, h2.1, h2.2⟩
theorem firstC_is {T : Int} {tc : Nat} {l : List Jb} {k : Nat} (hk : k < l.length) (h : isW T l[k]! = true ∧ l[k]!.c = tc) (hl : ∀ j, j < k → ¬ (isW T l[j]! = true ∧ l[j]!.c = tc)) : firstC T tc l = some k := by
  refine bestOf_first (w := fun i => isW T l[i]! && decide (l[i]!.c = tc)) hk (by show (isW T l[k]! && decide (l[k]!.c = tc)) = true; rw [h.1, decide_eq_true h.2]; rfl) (fun j hj => ?_)
  have := hl j hj
  cases h9 : (isW T l[j]! && decide (l[j]!.c = tc))
  · rfl
  · simp only [Bool.and_eq_true, decide_eq_true_eq] at h9
    exact absurd h9 this
theorem firstC_none {T : Int} {tc : Nat} {l : List Jb} (hl : ∀ j, j < l.length → ¬ (isW T l[j]! = true ∧ l[j]!.c = tc)) : firstC T tc l = none := by
  cases h : firstC T tc l with
  | none => rfl
  | some i =>
    obtain ⟨h1, h2, h3⟩ := firstC_some h
    exact absurd ⟨h2, h3⟩ (hl i h1)
/-- The turn goes on. -/
theorem FuN.on {gr : List Int} {pr : Jb → Int} {f : Nat} {T : Int} {l : List Jb} {tc : Nat} {tb : Bool} {cr cr' : Nat → Int} (h : FuN (f + 1) T l tc tb cr)
    (hg : ∀ c, c < 8 → 1 ≤ gr.getD c 0 ∧ gr.getD c 0 ≤ 40) (htc : tc < 8) (hcl : ∀ k, k < l.length → isW T l[k]! = true → 0 ≤ l[k]!.c ∧ l[k]!.c ≤ 7) (hpr : ∀ k, k < l.length → isW T l[k]! = true → pr l[k]! ≤ 20)
    (hcr : (firstC T tc l = none ∧ cr' = setC (crB gr tc tb cr) tc 0) ∨ (∃ i, firstC T tc l = some i ∧ crB gr tc tb cr tc < pr l[i]! ∧ cr' = crB gr tc tb cr)) : FuN f T l (nextC tc) false cr' := by
  intro f0 hf0
  have h1 := h f0 hf0
  have hc0 := hcl f0 hf0.1 hf0.2.1
  have hc8 : l[f0]!.c.toNat < 8 := by omega
  suffices hs : msr l[f0]!.c.toNat (nextC tc) false cr' < msr l[f0]!.c.toNat tc tb cr by omega
  by_cases e : tc = l[f0]!.c.toNat
  · rcases hcr with ⟨h2, _⟩ | ⟨i, h2, h3, h4⟩
    · exfalso
      have := bestOf_none h2 f0 hf0.1
      simp only [hf0.2.1, Bool.true_and, decide_eq_false_iff_not] at this
      exact this (by omega)
    · obtain ⟨i1, i2, i3⟩ := firstC_some h2
      have hp := hpr i i1 i2
      rw [h4]
      rw [← e]
      unfold msr nextC
      cases tb
      · have hg1 := hg tc htc
        have e1 : crB gr tc false cr tc = cr tc + gr.getD tc 0 := by simp [crB, setC]
        rw [e1] at h3 ⊢
        simp only [Bool.false_eq_true, if_false]
        have : (20 - (cr tc + gr.getD tc 0)).toNat + 1 ≤ (20 - cr tc).toNat := by omega
        omega
      · have e1 : crB gr tc true cr = cr := by simp [crB]
        rw [e1]
        simp only [Bool.false_eq_true, if_false, if_true]
        omega
  · have hcc : cr' l[f0]!.c.toNat = cr l[f0]!.c.toNat := by
      have hb : crB gr tc tb cr l[f0]!.c.toNat = cr l[f0]!.c.toNat := by
        unfold crB
        split
        · rfl
        · exact setC_ne _ _ (fun h9 => e h9.symm)
      rcases hcr with ⟨_, h4⟩ | ⟨i, _, _, h4⟩
      · rw [h4, setC_ne _ _ (fun h9 => e h9.symm), hb]
      · rw [h4, hb]
    unfold msr nextC
    rw [hcc]
    have : ((tc + 7) % 8 + 8 - l[f0]!.c.toNat) % 8 < (tc + 8 - l[f0]!.c.toNat) % 8 := by omega
    simp only [Bool.false_eq_true, if_false]
    split <;> omega
/-- A job begins. -/
theorem FuN.begin {f : Nat} {T T' : Int} {l : List Jb} {tc tc' : Nat} {tb tb' : Bool} {cr cr' : Nat → Int} {i f0 : Nat} (h : FuN (f + 1) T l tc tb cr) (hf0 : Fst T l f0) (hi : i < l.length) (hw : isJ l[i]! = true)
    (hcl : ∀ k, k < l.length → isW T' (l.set i jbZ)[k]! = true → 0 ≤ (l.set i jbZ)[k]!.c ∧ (l.set i jbZ)[k]!.c ≤ 7) (hc : ∀ c, c < 8 → 0 ≤ cr' c) : FuN f T' (l.set i jbZ) tc' tb' cr' := by
  intro f1 hf1
  have h1 := h f0 hf0
  have h2 := cntJ_set hi hw
  have h3 := isW_cnt hf1.1 hf1.2.1
  have h4 := hcl f1 (by have := hf1.1; rw [List.length_set] at this; exact this) hf1.2.1
  have h5 := msr_bd (c0 := (l.set i jbZ)[f1]!.c.toNat) (tc := tc') (tb := tb') (hc _ (by omega))
  omega
theorem FuN.pos {f : Nat} {T : Int} {l : List Jb} {tc : Nat} {tb : Bool} {cr : Nat → Int} (h : FuN f T l tc tb cr) {f0 : Nat} (hf0 : Fst T l f0) : ∃ f1, f = f1 + 1 := ⟨f - 1, by have := h f0 hf0; omega⟩
theorem Fu.norm {f : Nat} {tick : Int} {l : List Jb} {tc : Nat} {tb : Bool} {cr : Nat → Int} (h : FuN f tick l tc tb cr) (ht : tickOf tick l = tick) : Fu f tick l tc tb cr := by
  obtain ⟨h1, h2, h3⟩ := norm_at ht tc tb cr
  unfold Fu
  rw [ht, h1, h2, h3]
  exact h
/-- The next state's fuel, whatever is the tick. -/
theorem FuN.begin2 {f : Nat} {T T' : Int} {l : List Jb} {tc tc' : Nat} {tb tb' : Bool} {cr cr' : Nat → Int} {i f0 : Nat} (h : FuN (f + 1) T l tc tb cr) (hf0 : Fst T l f0) (hi : i < l.length) (hw : isJ l[i]! = true)
    (hcl : ∀ k, k < l.length → isJ (l.set i jbZ)[k]! = true → 0 ≤ (l.set i jbZ)[k]!.c ∧ (l.set i jbZ)[k]!.c ≤ 7) (hc : ∀ c, c < 8 → 0 ≤ cr' c) : Fu f T' (l.set i jbZ) tc' tb' cr' := by
  refine FuN.begin h hf0 hi hw (fun k hk hw2 => hcl k hk (isW_t.1 hw2).1) (fun c hc8 => ?_)
  unfold nCr
  split
  · exact Int.le_refl _
  · exact hc c hc8
theorem Fu.start (js : List Jb) (hA : areJb js = true) : Fu 4000 0 js 7 false (fun _ => 0) := by
  intro f0 hf0
  have hn := (areJb_in hA).1
  have hc := cntJ_le js
  have h5 := msr_bd (c0 := js[f0]!.c.toNat) (tc := nTc 0 js 7) (tb := nTb 0 js false) (cr := nCr 0 js (fun _ => 0)) (by unfold nCr; split <;> exact Int.le_refl _)
  omega
def pr1 (_ : Jb) : Int := 1
def prL (y : Jb) : Int := y.l
def inTurnOf (pr : Jb → Int) (js : List Jb) (gr : List Int) : List Int := runT gr pr 4000 0 js (List.replicate js.length 0) 7 false (fun _ => 0)
def eightB (gr : List Int) (most : Int) : Bool := decide (gr.length = 8) && okAll 1 most gr
def turnOf (js : List Jb) (gr : List Int) : List Int × Bool := if areJb js && eightB gr 20 then (inTurnOf pr1 js gr, true) else ([], false)
def defOf (js : List Jb) (gr : List Int) : List Int × Bool := if areJb js && eightB gr 40 then (inTurnOf prL js gr, true) else ([], false)
theorem stepR_len {gr : List Int} {pr : Jb → Int} {K : Int → List Jb → List Int → Nat → Bool → (Nat → Int) → List Int} (hK : ∀ T l out tc tb cr, (K T l out tc tb cr).length = out.length) (T : Int) (l : List Jb) (out : List Int) (tc : Nat) (tb : Bool) (cr : Nat → Int) :
    (stepR gr pr K T l out tc tb cr).length = out.length := by
  unfold stepR
  split
  · exact hK _ _ _ _ _ _
  · split
    · exact hK _ _ _ _ _ _
    · rw [hK, List.length_set]
theorem runT_len (gr : List Int) (pr : Jb → Int) (f : Nat) (tick : Int) (l : List Jb) (out : List Int) (tc : Nat) (tb : Bool) (cr : Nat → Int) : (runT gr pr f tick l out tc tb cr).length = out.length := by
  induction f generalizing tick l out tc tb cr with
  | zero => rfl
  | succ f ih =>
    rw [runT]
    split
    · rfl
    · exact stepR_len ih _ _ _ _ _ _
theorem inTurnOf_len (pr : Jb → Int) (js : List Jb) (gr : List Int) : (inTurnOf pr js gr).length = js.length := by unfold inTurnOf; rw [runT_len]; simp
theorem turnOf_len (js : List Jb) (gr : List Int) : (turnOf js gr).1.length ≤ 1048576 := by
  unfold turnOf
  split
  · rename_i h
    simp only [Bool.and_eq_true] at h
    have := (areJb_in h.1).1
    simp only
    rw [inTurnOf_len]
    omega
  · simp
theorem defOf_len (js : List Jb) (gr : List Int) : (defOf js gr).1.length ≤ 1048576 := by
  unfold defOf
  split
  · rename_i h
    simp only [Bool.and_eq_true] at h
    have := (areJb_in h.1).1
    simp only
    rw [inTurnOf_len]
    omega
  · simp
end Go.Proofs.Yteoggoopfjkdkaa
