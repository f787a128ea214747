/-
  What the law FnSchedulesTold goes by.
-/
import Derived.Test.YtdlmacoblmnajaaMathRun
import Derived.Test.YtdlmacoblmnajaaWaits
namespace Go.Proofs.Ytdlmacoblmnajaa
open Go.RowKit
set_option maxRecDepth 100000
set_option linter.unusedVariables false

/-- A set of numbers, as bits: the first k of an order. -/
def seenN (D : List Int) : Nat → Nat
  | 0 => 0
  | k + 1 => seenN D k ||| 2 ^ (D.getD k 0).toNat
theorem seen_bit {n : Nat} {D : List Int} (ho : Order n D) (k : Nat) (hk : k ≤ n) (j : Nat) : (seenN D k).testBit j = true ↔ ∃ p, p < k ∧ (D.getD p 0).toNat = j := by
  induction k with
  | zero => simp [seenN]
  | succ k ih =>
    rw [seenN, Nat.testBit_or, Bool.or_eq_true, ih (by omega), Nat.testBit_two_pow, decide_eq_true_eq]
    constructor
    · rintro (⟨p, h1, h2⟩ | h)
      · exact ⟨p, by omega, h2⟩
      · exact ⟨k, by omega, h⟩
    · rintro ⟨p, h1, h2⟩
      by_cases e : p = k
      · subst e; exact .inr h2
      · exact .inl ⟨p, by omega, h2⟩
theorem seen_lt {n : Nat} {D : List Int} (ho : Order n D) (hn : n ≤ 20) (k : Nat) (hk : k ≤ n) : seenN D k < 2 ^ 20 := by
  induction k with
  | zero => show (0 : Nat) < 2 ^ 20; decide
  | succ k ih =>
    have h := ho.rng k (by omega)
    exact Nat.or_lt_two_pow (ih (by omega)) (Nat.pow_lt_pow_right (by omega) (by omega))
theorem seen_new {n : Nat} {D : List Int} (ho : Order n D) (k : Nat) (hk : k < n) : seenN D k / 2 ^ (D.getD k 0).toNat % 2 = 0 := by
  have h : (seenN D k).testBit (D.getD k 0).toNat = false := by
    cases hb : (seenN D k).testBit (D.getD k 0).toNat
    · rfl
    · obtain ⟨p, h1, h2⟩ := (seen_bit ho k (by omega) _).1 hb
      have a := ho.rng p (by omega)
      have b := ho.rng k hk
      exact absurd (by omega) (ho.inj p k h1 hk)
  rw [Nat.testBit_eq_decide_div_mod_eq] at h
  have h2 := of_decide_eq_false h
  omega
/-- What the law asks of jobs with a schedule. -/
structure TdF (js : List Jb) (ss D W : List Int) (wt : Int) (G : Nat → Int) (S : Nat → Nat) : Prop where
  n20 : js.length ≤ 20
  lenS : ss.length = js.length
  lenD : D.length = js.length
  lenW : W.length = js.length
  job : ∀ i, i < js.length → 1 ≤ js[i]!.l ∧ js[i]!.l ≤ 20
  wait : ∀ i, i < js.length → 0 ≤ W.getD i 0 ∧ W.getD i 0 ≤ 5000
  prod : ∀ i, i < js.length → 0 ≤ W.getD i 0 * js[i]!.l ∧ W.getD i 0 * js[i]!.l ≤ 100000
  g0 : G 0 = 0
  gb : ∀ i, i ≤ js.length → 0 ≤ G i ∧ G i ≤ 2000000
  gs : ∀ i, i < js.length → G (i + 1) = G i + W.getD i 0 * js[i]!.l
  gw : G js.length = wt
  start : ∀ i, i < js.length → 0 ≤ ss.getD i 0 ∧ ss.getD i 0 ≤ 5000
  rng : ∀ k, k < js.length → 0 ≤ D.getD k 0 ∧ D.getD k 0 < js.length
  chain : ∀ k, k + 1 < js.length → ss.getD (D.getD k 0).toNat 0 + js[(D.getD k 0).toNat]!.l ≤ ss.getD (D.getD (k + 1) 0).toNat 0
  s0 : S 0 = 0
  sb : ∀ k, k ≤ js.length → S k < 1048576
  bit : ∀ k, k < js.length → S k / 2 ^ (D.getD k 0).toNat % 2 = 0
  so : ∀ k, k < js.length → S (k + 1) = S k ||| 2 ^ (D.getD k 0).toNat
theorem tdF_of {js : List Jb} {ss : List Int} (h : schd js ss = true) : TdF js ss (ordOf ss) (waitL js ss ss.length) (weighL js ss ss.length) (weighL js ss) (seenN (ordOf ss)) := by
  obtain ⟨hg, hb⟩ := schd_t h
  obtain ⟨h1, h2, h3, h4⟩ := givenB_in hg
  have ho := ordOf_order ss
  have hsr := ordOf_srt ss
  have hs := Sch.of hg hb
  have hw : ∀ i, i < js.length → (waitL js ss ss.length).getD i 0 = ss.getD i 0 - js[i]!.t := fun i hi => by
    have hi' : i < ss.length := by omega
    simp [waitL, hi']
  have hwb : ∀ i, i < js.length → 0 ≤ ss.getD i 0 - js[i]!.t ∧ ss.getD i 0 - js[i]!.t ≤ 5000 := fun i hi => by
    have a := hs.tick i hi
    have b := h3 i (by omega)
    have c := h4 i (by omega)
    omega
  refine ⟨by omega, by omega, by rw [ordOf_len]; omega, by rw [waitL_len]; omega, fun i hi => (h4 i (by omega)).2.2.2.2, fun i hi => by rw [hw i hi]; exact hwb i hi, fun i hi => ?_, rfl, fun i hi => ?_, fun i hi => by rw [hw i hi]; rfl, by rw [← h1], fun i hi => h3 i (by omega), fun k hk => by rw [h1] at hk ⊢; exact ho.rng k hk, fun k hk => ?_, rfl, fun k hk => seen_lt ho h2 k (by omega), fun k hk => seen_new ho k (by omega), fun k hk => rfl⟩
  · have c := h4 i (by omega)
    have d := hwb i hi
    have e := mulW_in (a := ss.getD i 0 - js[i]!.t) (b := js[i]!.l) (A := 5000) (B := 20) (by omega) (by omega) (by omega) (by omega)
    rw [hw i hi]
    omega
  · have := weighL_bd h i (by omega)
    omega
  · have a := ho.rng k (by omega)
    have b := ho.rng (k + 1) (by omega)
    have c := hsr k (k + 1) (by omega) (by omega)
    have d := ho.inj k (k + 1) (by omega) (by omega)
    have p1 := hs.pos ((ordOf ss).getD k 0).toNat (by omega)
    have p2 := hs.pos ((ordOf ss).getD (k + 1) 0).toNat (by omega)
    have e := hs.apart ((ordOf ss).getD k 0).toNat ((ordOf ss).getD (k + 1) 0).toNat (by omega) (by omega) (by omega)
    unfold sk at c
    omega
def tlW (js : List Jb) : Nat → Int
  | 0 => 0
  | m + 1 => tlW js m + js[m]!.t * js[m]!.l
theorem weigh_sl (js : List Jb) (ss : List Int) (m : Nat) : weighL js ss m + tlW js m = slW js ss m := by
  induction m with
  | zero => rfl
  | succ m ih =>
    rw [weighL, tlW, slW, ← ih, Int.sub_mul]
    omega
theorem fifo_sched {js : List Jb} (hA : areJb js = true) : schedB js (fifo js) = true := by
  have h := Sch.fifo hA
  rw [schedB_t]
  intro i hi
  rw [fifo_len] at hi
  refine ⟨h.tick i hi, fun k hk hh => ?_⟩
  have := h.apart i k hi (by omega) (by omega)
  omega
/-- What is told of the first starts. -/
theorem td_first {js : List Jb} {ss : List Int} (h : schd js ss = true) : ∃ F lst, firstOf js = (F, true) ∧ F.length ≤ 1048576 ∧ weighted js F = (lst, true) ∧ (busyB js ss = true → weighL js ss ss.length = lst) := by
  obtain ⟨hg, hb⟩ := schd_t h
  have hA := (givenB_t hg).1
  have hl := (givenB_t hg).2.1
  have hn := (areJb_in hA).1
  have e1 : firstOf js = (fifo js, true) := by simp only [firstOf, hA, if_true, fifo_is hA]
  have hsf : schd js (fifo js) = true := by simp [schd, fifo_given hA, fifo_sched hA]
  refine ⟨fifo js, weighL js (fifo js) (fifo js).length, e1, by rw [fifo_len]; omega, by simp only [weighted, hsf, if_true], fun hbu => ?_⟩
  have h5 := busy_same hA (Sch.of hg hb) (Sch.fifo hA) ((busyB_t hg hb).1 hbu) (fifo_busy hA)
  have h6 := weigh_sl js ss js.length
  have h7 := weigh_sl js (fifo js) js.length
  rw [fifo_len, ← hl]
  omega
end Go.Proofs.Ytdlmacoblmnajaa
