/-
  Interrupted jobs: their line is busy as the first one first is; those of the greatest class are not held up.
-/
import Derived.Test.YtdggaeipfbacmaaMathKept
import Derived.Test.YtdggaeipfbacmaaMathPre
namespace Go.Proofs.Ytdggaeipfbacmaa
open Go.RowKit
set_option maxRecDepth 100000
set_option linter.unusedVariables false

theorem bestOf_top {w : Nat → Bool} {r : Nat → Int} {m b : Nat} (h : bestOf w r m = some b) : ∀ j, j < m → w j = true → r j ≤ r b ∧ (r j = r b → b ≤ j) := by
  induction m generalizing b with
  | zero => intro j hj; omega
  | succ m ih =>
    intro j hj hw
    rw [bestOf] at h
    cases hb : bestOf w r m with
    | none =>
      rw [hb] at h
      have h0 := bestOf_none hb
      by_cases e : j = m
      · subst e
        rw [hw] at h
        injection h with h
        subst h
        exact ⟨Int.le_refl _, fun _ => Nat.le_refl _⟩
      · rw [h0 j (by omega)] at hw; cases hw
    | some c =>
      rw [hb] at h
      simp only at h
      have hc := bestOf_some hb
      have h1 := ih hb
      by_cases e : j = m
      · subst e
        by_cases hlt : r c < r j
        · rw [hw, decide_eq_true hlt] at h
          injection h with h
          subst h
          exact ⟨Int.le_refl _, fun _ => Nat.le_refl _⟩
        · rw [decide_eq_false hlt, Bool.and_false] at h
          injection h with h
          subst h
          exact ⟨by omega, fun _ => by omega⟩
      · have h2 := h1 j (by omega) hw
        cases hq : (w m && decide (r c < r m))
        · rw [hq] at h
          injection h with h
          subst h
          exact h2
        · rw [hq] at h
          injection h with h
          subst h
          have h3 : r c < r m := by
            rw [Bool.and_eq_true] at hq
            exact of_decide_eq_true hq.2
          exact ⟨by omega, fun h9 => by omega⟩
/-- What has been done of the jobs that P tells. -/
def difP (P : Jb → Bool) (js l : List Jb) : Nat → Int
  | 0 => 0
  | m + 1 => difP P js l m + if P js[m]! then js[m]!.l - l[m]!.l else 0
theorem difP_set (P : Jb → Bool) (js l : List Jb) (k : Nat) (y : Jb) (hk : k < l.length) (m : Nat) : difP P js (l.set k y) m = difP P js l m + if k < m ∧ P js[k]! = true then l[k]!.l - y.l else 0 := by
  induction m with
  | zero => simp [difP]
  | succ m ih =>
    rw [difP, difP, ih, set_get l k y m hk]
    by_cases e : m = k
    · subst e
      rw [if_pos rfl, if_neg (by omega : ¬ (m < m ∧ P js[m]! = true))]
      cases hp : P js[m]!
      · simp
      · simp; omega
    · rw [if_neg e]
      generalize (if P js[m]! = true then js[m]!.l - l[m]!.l else 0) = B
      by_cases hP : P js[k]! = true
      · by_cases h1 : k < m
        · rw [if_pos ⟨h1, hP⟩, if_pos ⟨(by omega : k < m + 1), hP⟩]; omega
        · rw [if_neg (fun h9 => h1 h9.1), if_neg (fun h9 => h1 (by omega))]; omega
      · rw [if_neg (fun h9 => hP h9.2), if_neg (fun h9 => hP h9.2)]; omega
theorem difP_same (P : Jb → Bool) (js : List Jb) (m : Nat) : difP P js js m = 0 := by
  induction m with
  | zero => rfl
  | succ m ih => rw [difP, ih]; split <;> omega
def sumP (P : Jb → Bool) (js : List Jb) : Nat → Int
  | 0 => 0
  | m + 1 => sumP P js m + if P js[m]! then js[m]!.l else 0
theorem difP_le (P : Jb → Bool) {js l : List Jb} (m : Nat) (h : ∀ k, k < m → 0 ≤ l[k]!.l) : difP P js l m ≤ sumP P js m := by
  induction m with
  | zero => exact Int.le_refl _
  | succ m ih =>
    have h1 := ih (fun k hk => h k (by omega))
    have h2 := h m (by omega)
    rw [difP, sumP]
    split <;> omega
theorem difP_nn (P : Jb → Bool) {js l : List Jb} (m : Nat) (h : ∀ k, k < m → l[k]!.l ≤ js[k]!.l) : 0 ≤ difP P js l m := by
  induction m with
  | zero => exact Int.le_refl _
  | succ m ih =>
    have h1 := ih (fun k hk => h k (by omega))
    have h2 := h m (by omega)
    rw [difP]
    split <;> omega
def allP (_ : Jb) : Bool := true
def topP (y : Jb) : Bool := decide (y.c = 7)
/-- What is known while interrupted jobs run. -/
structure RunPI (js : List Jb) (tick : Int) (l : List Jb) (out : List Int) : Prop where
  left : LeftP js l
  olen : out.length = js.length
  tk : 0 ≤ tick
  le : ∀ k, k < js.length → 0 ≤ l[k]!.l ∧ l[k]!.l ≤ js[k]!.l ∧ (l[k]!.l = js[k]!.l ∨ js[k]!.t + (js[k]!.l - l[k]!.l) ≤ tick)
  cov : ∀ k, k < js.length → 0 < l[k]!.l → ∀ t : Int, js[k]!.t ≤ t → t < tick → heldB js (fifo js) t js.length = true
  done : dW js (fifo js) tick js.length = difP allP js l js.length
  top : ∀ k, k < js.length → js[k]!.c = 7 → 0 < l[k]!.l → js[k]!.t ≤ tick → tick - js[k]!.t ≤ difP topP js l (k + 1)
  fin : ∀ k, k < js.length → l[k]!.l = 0 → js[k]!.t + js[k]!.l ≤ out.getD k 0 ∧ (∀ t : Int, js[k]!.t ≤ t → t < out.getD k 0 → heldB js (fifo js) t js.length = true) ∧ (js[k]!.c = 7 → out.getD k 0 - js[k]!.t ≤ sumP topP js (k + 1))
theorem RunPI.start {js : List Jb} (hA : areJb js = true) : RunPI js 0 js (List.replicate js.length 0) :=
  ⟨LeftP.start hA, by simp, Int.le_refl _, fun k hk => ⟨by have := tick_at' hA hk; omega, Int.le_refl _, .inl rfl⟩, fun k hk h t h1 h2 => by have := tick_at' hA hk; omega,
    by rw [dW_zero (Sch.fifo hA) _ (Nat.le_refl _), difP_same], fun k hk _ _ h => by have := tick_at' hA hk; rw [difP_same]; omega, fun k hk h => by have := tick_at' hA hk; omega⟩
/-- The work that has come less that which is done is that which waits. -/
theorem RunPI.rest {js l : List Jb} {tick : Int} {out : List Int} (h : RunPI js tick l out) (T : Int) (hT : tick ≤ T) (m : Nat) (hm : m ≤ js.length) :
    0 ≤ aT js T m - difP allP js l m ∧ ((∀ k, k < m → 0 < l[k]!.l → T < js[k]!.t) → aT js T m = difP allP js l m) ∧ ((∃ k, k < m ∧ 0 < l[k]!.l ∧ js[k]!.t ≤ T) → 0 < aT js T m - difP allP js l m) := by
  induction m with
  | zero => exact ⟨by simp [aT, difP], fun _ => rfl, fun ⟨k, hk, _⟩ => absurd hk (by omega)⟩
  | succ m ih =>
    obtain ⟨h1, h2, h3⟩ := ih (by omega)
    obtain ⟨a1, a2, a3⟩ := h.le m (by omega)
    have e : difP allP js l (m + 1) = difP allP js l m + (js[m]!.l - l[m]!.l) := by rw [difP, allP, if_pos rfl]
    rw [e, aT]
    refine ⟨?_, fun h9 => ?_, fun ⟨k, hk, k1, k2⟩ => ?_⟩
    · split <;> omega
    · have h4 := h2 (fun k hk => h9 k (by omega))
      have h5 := h9 m (by omega)
      split <;> omega
    · by_cases e2 : k = m
      · subst e2
        rw [if_pos k2]
        omega
      · have h4 := h3 ⟨k, by omega, k1, k2⟩
        split <;> omega
/-- While none waits, nothing is done. -/
theorem RunPI.idle {js l : List Jb} {tick : Int} {out : List Int} (hA : areJb js = true) (h : RunPI js tick l out) (T : Int) (hT : ∀ k, k < js.length → 0 < l[k]!.l → T ≤ js[k]!.t) (d : Nat) (hd : tick + d ≤ T) :
    dW js (fifo js) (tick + d) js.length = difP allP js l js.length := by
  induction d with
  | zero => rw [show tick + ((0 : Nat) : Int) = tick by omega]; exact h.done
  | succ d ih =>
    have h1 := ih (by omega)
    have h2 := (h.rest (tick + d) (by omega) js.length (Nat.le_refl _)).2.1 (fun k hk hp => by have := hT k hk hp; omega)
    have h3 : heldB js (fifo js) (tick + d) js.length = false := by
      cases hh : heldB js (fifo js) (tick + d) js.length
      · rfl
      · have := (busy_held (Sch.fifo hA) (fifo_busy hA) (tick + d)).1 hh
        omega
    have h4 := dW_step (Sch.fifo hA) (tick + d) js.length (Nat.le_refl _)
    rw [h3] at h4
    rw [show tick + ((d + 1 : Nat) : Int) = tick + d + 1 by omega, h4, h1]
    simp
theorem isJ_pos {js l : List Jb} (h : LeftP js l) {k : Nat} (hk : k < js.length) : isJ l[k]! = true ↔ 0 < l[k]!.l := by
  rcases h.at_ k hk with ⟨h1, h2, h3, h4⟩ | h1
  · rw [isJ_ok h3]; exact ⟨fun _ => by omega, fun _ => rfl⟩
  · rw [h1, isJ_zero]; exact ⟨fun h => (by cases h), fun h => by simp [jbZ] at h⟩
theorem RunPI.step {js l : List Jb} {tick : Int} {out : List Int} (hA : areJb js = true) (h : RunPI js tick l out) {k : Nat} (hp : 0 < workJ l) (hk : pickOf (rkC (tickOf tick l)) (tickOf tick l) l = some k) :
    RunPI js (tickOf tick l + 1) (l.set k (nextJ l[k]!)) (if l[k]!.l = 1 then out.set k (tickOf tick l + 1) else out) := by
  obtain ⟨u, f, k', u1, u2, u3, eT, hf, hpk, k1, k3, T0, ⟨T1, _⟩, hb⟩ := stepP_of (rk := rkC) hA h.left hp h.tk
  rw [hk] at hpk
  injection hpk with hpk
  subst hpk
  have hlen := h.left.len
  have ku : k < js.length := by omega
  have hkl : 0 < l[k]!.l := (isJ_pos h.left ku).1 k3
  have hkw := (bestOf_some hk).2
  have hkt : l[k]!.t ≤ tickOf tick l := (isW_t.1 hkw).2
  have hjt : ∀ j, j < js.length → 0 < l[j]!.l → l[j]!.t = js[j]!.t ∧ l[j]!.c = js[j]!.c := fun j hj hp => by
    rcases h.left.at_ j hj with ⟨h1, h2, _⟩ | h1
    · exact ⟨h1, h2⟩
    · rw [h1] at hp; simp [jbZ] at hp
  have hbest := bestOf_top hk
  obtain ⟨T, hTe⟩ : ∃ T, tickOf tick l = T := ⟨_, rfl⟩
  rw [hTe] at eT hkt T0 T1 hbest ⊢
  -- where the line jumps, none waits before
  have hidle : tick < T → ∀ j, j < js.length → 0 < l[j]!.l → T ≤ js[j]!.t := fun hlt j hj hp => by
    have huj : u ≤ j := by
      rcases Nat.lt_or_ge j u with h9 | h9
      · have := u3 j h9
        rw [(isJ_pos h.left hj).2 hp] at this
        cases this
      · exact h9
    have hu' := hjt u (by omega) ((isJ_pos h.left (by omega)).1 u2)
    have hm := tick_mono' hA huj hj
    rw [hu'.1] at eT
    split at eT <;> omega
  have hdone : dW js (fifo js) T js.length = difP allP js l js.length := by
    rcases Int.lt_or_le tick T with hlt | hle
    · have := h.idle hA T (hidle hlt) (T - tick).toNat (by omega)
      rw [show tick + ((T - tick).toNat : Int) = T by omega] at this
      exact this
    · have : T = tick := by omega
      rw [this]; exact h.done
  obtain ⟨kt, kc⟩ := hjt k ku hkl
  have hheld : heldB js (fifo js) T js.length = true := by
    rw [busy_held (Sch.fifo hA) (fifo_busy hA)]
    have := (h.rest T T1 js.length (Nat.le_refl _)).2.2 ⟨k, ku, hkl, by omega⟩
    omega
  have hcov : ∀ j, j < js.length → 0 < l[j]!.l → ∀ t : Int, js[j]!.t ≤ t → t < T + 1 → heldB js (fifo js) t js.length = true := fun j hj hp t h1 h2 => by
    rcases Int.lt_or_le t tick with h3 | h3
    · exact h.cov j hj hp t h1 h3
    · rcases Int.lt_or_le t T with h4 | h4
      · have := hidle (by omega) j hj hp
        omega
      · rw [show t = T by omega]; exact hheld
  have hrem : (nextJ l[k]!).l = l[k]!.l - 1 := by
    unfold nextJ
    split
    · rename_i e; rw [e]; rfl
    · rfl
  have hset : ∀ j, (l.set k (nextJ l[k]!))[j]! = if j = k then nextJ l[k]! else l[j]! := fun j => set_get l k _ j k1
  have hstep := dW_step (Sch.fifo hA) T js.length (Nat.le_refl _)
  rw [hheld, if_pos rfl, hdone] at hstep
  have hdif : ∀ (P : Jb → Bool) m, difP P js (l.set k (nextJ l[k]!)) m = difP P js l m + if k < m ∧ P js[k]! = true then 1 else 0 := fun P m => by
    rw [difP_set P js l k _ k1 m, hrem]
    split <;> omega
  -- those of the greatest class
  have htop : ∀ j, j < js.length → js[j]!.c = 7 → 0 < l[j]!.l → js[j]!.t ≤ T → T + 1 - js[j]!.t ≤ difP topP js (l.set k (nextJ l[k]!)) (j + 1) := fun j hj hc hp ht => by
    obtain ⟨jt, jc⟩ := hjt j hj hp
    have hw : isW T l[j]! = true := isW_t.2 ⟨(isJ_pos h.left hj).2 hp, by omega⟩
    obtain ⟨b1, b2⟩ := hbest j (by omega) hw
    simp only [rkC] at b1 b2
    have hkc := tick_at' hA ku
    have e7 : js[k]!.c = 7 := by omega
    have hkj := b2 (by omega)
    rw [hdif, if_pos ⟨by omega, decide_eq_true e7⟩]
    have hnn : 0 ≤ difP topP js l (j + 1) := difP_nn _ _ (fun q hq => (h.le q (by omega)).2.1)
    rcases Int.lt_or_le tick T with hlt | hle
    · have := hidle hlt j hj hp
      omega
    · have := h.top j hj hc hp (by omega)
      omega
  refine ⟨h.left.next k ku k3, by split <;> simp [h.olen], by omega, fun j hj => ?_, fun j hj hp t h1 h2 => ?_, ?_, fun j hj hc hp ht => ?_, fun j hj hp => ?_⟩
  · rw [hset]
    obtain ⟨a1, a2, a3⟩ := h.le j hj
    by_cases e : j = k
    · subst e
      rw [if_pos rfl, hrem]
      omega
    · rw [if_neg e]
      omega
  · rw [hset] at hp
    by_cases e : j = k
    · subst e
      exact hcov j hj hkl t h1 h2
    · rw [if_neg e] at hp
      exact hcov j hj hp t h1 h2
  · rw [hstep, hdif, if_pos ⟨ku, rfl⟩]
  · rw [hset] at hp
    have hp2 : 0 < l[j]!.l := by
      by_cases e : j = k
      · rw [e]; exact hkl
      · rw [if_neg e] at hp; exact hp
    rcases Int.lt_or_le T js[j]!.t with h9 | h9
    · have hnn : 0 ≤ difP topP js (l.set k (nextJ l[k]!)) (j + 1) := difP_nn _ _ (fun q hq => by
        rw [hset]
        have := h.le q (by omega)
        split
        · rename_i e; rw [hrem, ← e]; omega
        · exact this.2.1)
      omega
    · exact htop j hj hc hp2 h9
  · rw [hset] at hp
    by_cases e : j = k
    · subst e
      rw [if_pos rfl, hrem] at hp
      have h1 : l[j]!.l = 1 := by omega
      rw [if_pos h1, getD_set' _ _ _ _ (by rw [h.olen]; exact hj), if_pos rfl]
      refine ⟨?_, fun t h2 h3 => hcov j hj hkl t h2 h3, fun hc => ?_⟩
      · have := h.le j hj
        omega
      · have h2 := htop j hj hc hkl (by omega)
        have h3 := difP_le topP (js := js) (l := l.set j (nextJ l[j]!)) (j + 1) (fun q hq => by
          rw [hset]
          have := h.le q (by omega)
          split
          · rename_i e; rw [hrem]; omega
          · exact this.1)
        omega
    · rw [if_neg e] at hp
      have h1 : (if l[k]!.l = 1 then out.set k (T + 1) else out).getD j 0 = out.getD j 0 := by
        split
        · rw [getD_set' _ _ _ _ (by rw [h.olen]; exact ku), if_neg e]
        · rfl
      rw [h1]
      exact h.fin j hj hp
theorem runP_kept {js : List Jb} (hA : areJb js = true) (f : Nat) (tick : Int) (l : List Jb) (out : List Int) (h : RunPI js tick l out) (hf : workJ l = f) : ∃ T l', RunPI js T l' (runP f tick l out) ∧ workJ l' = 0 := by
  induction f generalizing tick l out with
  | zero => exact ⟨tick, l, h, hf⟩
  | succ f ih =>
    obtain ⟨u, f0, k, u1, u2, u3, eT, hf0, hpk, k1, k3, T0, T1, hb⟩ := stepP_of (rk := rkC) hA h.left (by omega) h.tk
    rw [runP_step hpk]
    refine ih _ _ _ (h.step hA (by omega) hpk) ?_
    have := workJ_next (l := l) k1 (by omega)
    omega
/-- Interrupted jobs end behind their length, while the line is busy, and those of the greatest class are not held up. -/
theorem ends_kept {js : List Jb} (hA : areJb js = true) (i : Nat) (hi : i < js.length) : js[i]!.t + js[i]!.l ≤ (endsOf js).getD i 0 ∧ (∀ t : Int, js[i]!.t ≤ t → t < (endsOf js).getD i 0 → heldB js (fifo js) t js.length = true) ∧ (js[i]!.c = 7 → (endsOf js).getD i 0 - js[i]!.t ≤ sumP topP js (i + 1)) := by
  obtain ⟨T, l', h, h0⟩ := runP_kept hA (workJ js) 0 js _ (RunPI.start hA) rfl
  refine h.fin i hi ?_
  have h1 := cntJ_zero ((workJ_cnt h.left).1 h0) i (by rw [h.left.len]; exact hi)
  have h2 := (h.le i hi).1
  rcases Int.lt_or_le 0 l'[i]!.l with h3 | h3
  · rw [(isJ_pos h.left hi).2 h3] at h1; cases h1
  · omega
end Go.Proofs.Ytdggaeipfbacmaa
