/-
  Schedules: what a list of starts is, orders of them, and the numbers that both sides give. No dump is imported.
-/
import Derived.Test.YteoggoopfjkdkaaMathJob
namespace Go.Proofs.Yteoggoopfjkdkaa
open Go.RowKit
set_option maxRecDepth 100000

/-- The k-th start. -/
def sk (ss : List Int) (x : Int) : Int := ss.getD x.toNat 0
theorem sk_nat (ss : List Int) (k : Nat) : sk ss (k : Int) = ss.getD k 0 := by simp [sk]
/-- No job begins before it comes, no two have the line at once. -/
def SchedAt (js : List Jb) (ss : List Int) (i : Nat) : Prop := js[i]!.t ≤ ss.getD i 0 ∧ ∀ k, k < i → ¬ (ss.getD i 0 < ss.getD k 0 + js[k]!.l ∧ ss.getD k 0 < ss.getD i 0 + js[i]!.l)
instance (js : List Jb) (ss : List Int) (i : Nat) : Decidable (SchedAt js ss i) := by unfold SchedAt; infer_instance
def schedB (js : List Jb) (ss : List Int) : Bool := decide (∀ i, i < ss.length → SchedAt js ss i)
theorem schedB_t {js : List Jb} {ss : List Int} : schedB js ss = true ↔ ∀ i, i < ss.length → SchedAt js ss i := by simp [schedB]
theorem schedB_f {js : List Jb} {ss : List Int} (i : Nat) (hi : i < ss.length) (h : ¬ SchedAt js ss i) : schedB js ss = false := by
  cases hb : schedB js ss
  · rfl
  · exact absurd (schedB_t.1 hb i hi) h
def givenB (js : List Jb) (ss : List Int) : Bool := areJb js && (decide (js.length = ss.length) && okAll 0 5000 ss)
theorem givenB_t {js : List Jb} {ss : List Int} (h : givenB js ss = true) : areJb js = true ∧ js.length = ss.length ∧ okAll 0 5000 ss = true := by simpa [givenB] using h
/-- What is known of jobs with starts. -/
theorem givenB_in {js : List Jb} {ss : List Int} (h : givenB js ss = true) : js.length = ss.length ∧ ss.length ≤ 20 ∧ (∀ i, i < ss.length → 0 ≤ ss.getD i 0 ∧ ss.getD i 0 ≤ 5000) ∧
    ∀ i, i < ss.length → 0 ≤ js[i]!.t ∧ js[i]!.t ≤ 1000 ∧ 0 ≤ js[i]!.c ∧ js[i]!.c ≤ 7 ∧ 1 ≤ js[i]!.l ∧ js[i]!.l ≤ 20 := by
  obtain ⟨h1, h2, h3⟩ := givenB_t h
  obtain ⟨a, b, _⟩ := areJb_in h1
  refine ⟨h2, by omega, fun i hi => okAll_at h3 i hi, fun i hi => ?_⟩
  have hi' : i < js.length := by omega
  rw [getElem!_pos js i hi']
  exact b _ (List.getElem_mem hi')

/-- d is an order of 0 .. n - 1. -/
structure Order (n : Nat) (d : List Int) : Prop where
  len : d.length = n
  rng : ∀ p, p < n → 0 ≤ d.getD p 0 ∧ d.getD p 0 < n
  all : ∀ i : Nat, i < n → ∃ p, p < n ∧ d.getD p 0 = i
  inj : ∀ p q, p < q → q < n → d.getD p 0 ≠ d.getD q 0
/-- The first i are sorted by their starts. -/
def Srt (ss d : List Int) (i : Nat) : Prop := ∀ p q, p < q → q < i → sk ss (d.getD p 0) ≤ sk ss (d.getD q 0)
/-- The first i + 1 are, but for what stands behind the one at j. -/
def SrtBut (ss d : List Int) (i j : Nat) : Prop := ∀ p q, p < q → q ≤ i → q ≠ j → sk ss (d.getD p 0) ≤ sk ss (d.getD q 0)
/-- Two that stand side by side change places. -/
def swL (d : List Int) (m : Nat) : List Int := (d.set (m + 1) (d.getD m 0)).set m (d.getD (m + 1) 0)
theorem swL_len (d : List Int) (m : Nat) : (swL d m).length = d.length := by simp [swL]
theorem swL_getD (d : List Int) (m p : Nat) (hm : m + 1 < d.length) (hp : p < d.length) : (swL d m).getD p 0 = if p = m then d.getD (m + 1) 0 else if p = m + 1 then d.getD m 0 else d.getD p 0 := by
  unfold swL
  simp only [List.getD_eq_getElem?_getD, List.getElem?_set, List.length_set]
  by_cases h1 : p = m
  · subst h1
    simp [hp]
  · by_cases h2 : p = m + 1
    · subst h2
      simp [hm]
    · simp [h1, h2, Ne.symm h1, Ne.symm h2]
theorem Order.swap {n : Nat} {d : List Int} (h : Order n d) (m : Nat) (hm : m + 1 < n) : Order n (swL d m) := by
  have hl := h.len
  have g := fun p (hp : p < n) => swL_getD d m p (by omega) (by omega)
  refine ⟨by rw [swL_len]; exact hl, fun p hp => ?_, fun i hi => ?_, fun p q hpq hq => ?_⟩
  · rw [g p hp]
    have a := h.rng p hp
    have b := h.rng m (by omega)
    have c := h.rng (m + 1) hm
    split
    · exact c
    · split
      · exact b
      · exact a
  · obtain ⟨p, hp, e⟩ := h.all i hi
    by_cases h1 : p = m
    · refine ⟨m + 1, hm, ?_⟩
      rw [g _ hm, if_neg (by omega), if_pos rfl, ← h1]; exact e
    · by_cases h2 : p = m + 1
      · refine ⟨m, by omega, ?_⟩
        rw [g _ (by omega), if_pos rfl, ← h2]; exact e
      · refine ⟨p, hp, ?_⟩
        rw [g _ hp, if_neg h1, if_neg h2]; exact e
  · rw [g p (by omega), g q hq]
    have x1 := h.inj m (m + 1) (by omega) hm
    have X : ∀ a b, a ≠ b → a < n → b < n → d.getD a 0 ≠ d.getD b 0 := by
      intro a b hab ha hb
      rcases Nat.lt_or_gt_of_ne hab with h9 | h9
      · exact h.inj a b h9 hb
      · exact (h.inj b a h9 ha).symm
    by_cases p1 : p = m <;> by_cases p2 : p = m + 1 <;> by_cases q1 : q = m <;> by_cases q2 : q = m + 1
    all_goals (simp only [p1, p2, q1, q2, if_true, if_false]; try omega)
    all_goals (first
      | omega
      | (split <;> first | exact X _ _ (by omega) (by omega) (by omega) | omega)
      | exact X _ _ (by omega) (by omega) (by omega))
theorem SrtBut.swap {ss d : List Int} {i m : Nat} (h : SrtBut ss d i (m + 1)) (hd : i < d.length) (hi : m + 1 ≤ i) (hlt : sk ss (d.getD (m + 1) 0) < sk ss (d.getD m 0)) : SrtBut ss (swL d m) i m := by
  intro p q hpq hq hqm
  have g := fun p (hp : p < d.length) => swL_getD d m p (by omega) hp
  rw [g p (by omega), g q (by omega)]
  rw [if_neg hqm]
  by_cases q2 : q = m + 1
  · rw [if_pos q2]
    by_cases p1 : p = m
    · rw [if_pos p1]; omega
    · rw [if_neg p1, if_neg (by omega)]
      exact h p m (by omega) (by omega) (by omega)
  · rw [if_neg q2]
    by_cases p1 : p = m
    · rw [if_pos p1]
      exact h (m + 1) q (by omega) hq q2
    · rw [if_neg p1]
      by_cases p2 : p = m + 1
      · rw [if_pos p2]
        exact h m q (by omega) hq q2
      · rw [if_neg p2]
        exact h p q hpq hq q2
theorem SrtBut.at_zero {ss d : List Int} {i : Nat} (h : SrtBut ss d i 0) : Srt ss d (i + 1) := fun p q hpq hq => h p q hpq (by omega) (by omega)
theorem SrtBut.at_end {ss d : List Int} {i m : Nat} (h : SrtBut ss d i (m + 1)) (hi : m + 1 ≤ i) (hle : ¬ sk ss (d.getD (m + 1) 0) < sk ss (d.getD m 0)) : Srt ss d (i + 1) := by
  intro p q hpq hq
  by_cases q1 : q = m + 1
  · by_cases p1 : p = m
    · rw [q1, p1]; omega
    · have := h p m (by omega) (by omega) (by omega)
      rw [q1]; omega
  · exact h p q hpq (by omega) q1
theorem Srt.but {ss d : List Int} {i : Nat} (h : Srt ss d i) : SrtBut ss d i i := fun p q hpq hq hqi => h p q hpq (by omega)

/-- The numbers 0 .. n - 1. -/
def idx (n : Nat) : List Int := (List.range n).map Int.ofNat
theorem idx_len (n : Nat) : (idx n).length = n := by simp [idx]
theorem idx_getD (n p : Nat) (hp : p < n) : (idx n).getD p 0 = p := by simp [idx, hp]
theorem order_idx (n : Nat) : Order n (idx n) :=
  ⟨idx_len n, fun p hp => by rw [idx_getD n p hp]; omega, fun i hi => ⟨i, hi, idx_getD n i hi⟩, fun p q h hq => by rw [idx_getD n p (by omega), idx_getD n q hq]; omega⟩
/-- Along an order that is sorted by the starts, each one ends before the next one begins: so do all. -/
def Chain (js : List Jb) (ss d : List Int) (k : Nat) : Prop := ∀ p, p < k → js[(d.getD p 0).toNat]!.t ≤ sk ss (d.getD p 0) ∧ ∀ q, q + 1 = p → sk ss (d.getD q 0) + js[(d.getD q 0).toNat]!.l ≤ sk ss (d.getD p 0)
theorem Chain.sched {js : List Jb} {ss d : List Int} (hg : givenB js ss = true) (ho : Order ss.length d) (hs : Srt ss d ss.length) (hc : Chain js ss d ss.length) : schedB js ss = true := by
  obtain ⟨h1, h2, h3, h4⟩ := givenB_in hg
  have sep : ∀ p q, p < q → q < ss.length → sk ss (d.getD p 0) + js[(d.getD p 0).toNat]!.l ≤ sk ss (d.getD q 0) := by
    intro p q hpq hq
    have a := (hc (p + 1) (by omega)).2 p rfl
    by_cases e : p + 1 = q
    · rw [← e]; exact a
    · have b := hs (p + 1) q (by omega) hq
      omega
  rw [schedB_t]
  intro i hi
  obtain ⟨p, hp, ep⟩ := ho.all i hi
  have a := (hc p hp).1
  rw [ep, sk_nat, Int.toNat_natCast] at a
  refine ⟨a, fun k hk => ?_⟩
  obtain ⟨q, hq, eq⟩ := ho.all k (by omega)
  rcases Nat.lt_trichotomy p q with h | h | h
  · have := sep p q h hq
    rw [ep, eq, sk_nat, sk_nat, Int.toNat_natCast] at this
    omega
  · exfalso
    rw [h, eq] at ep
    omega
  · have := sep q p h hp
    rw [ep, eq, sk_nat, sk_nat, Int.toNat_natCast] at this
    omega
theorem Chain.succ {js : List Jb} {ss d : List Int} {k : Nat} (h : Chain js ss d k) (h1 : js[(d.getD k 0).toNat]!.t ≤ sk ss (d.getD k 0)) (h2 : ∀ q, q + 1 = k → sk ss (d.getD q 0) + js[(d.getD q 0).toNat]!.l ≤ sk ss (d.getD k 0)) : Chain js ss d (k + 1) := by
  intro p hp
  by_cases e : p = k
  · rw [e]; exact ⟨h1, h2⟩
  · exact h p (by omega)
theorem sched_no_t {js : List Jb} {ss d : List Int} {k : Nat} (ho : Order ss.length d) (hk : k < ss.length) (h : sk ss (d.getD k 0) < js[(d.getD k 0).toNat]!.t) : schedB js ss = false := by
  have a := ho.rng k hk
  refine schedB_f (d.getD k 0).toNat (by omega) fun hh => ?_
  have := hh.1
  unfold sk at h
  omega
theorem sched_no_l {js : List Jb} {ss d : List Int} {k q : Nat} (hg : givenB js ss = true) (ho : Order ss.length d) (hs : Srt ss d ss.length) (hk : k < ss.length) (hq : q + 1 = k) (h : sk ss (d.getD k 0) < sk ss (d.getD q 0) + js[(d.getD q 0).toNat]!.l) : schedB js ss = false := by
  obtain ⟨h1, h2, h3, h4⟩ := givenB_in hg
  have a := ho.rng k hk
  have b := ho.rng q (by omega)
  have c := hs q k (by omega) hk
  have e := ho.inj q k (by omega) hk
  have l1 := h4 (d.getD k 0).toNat (by omega)
  have l2 := h4 (d.getD q 0).toNat (by omega)
  unfold sk at h c
  rcases Nat.lt_or_gt_of_ne (show (d.getD k 0).toNat ≠ (d.getD q 0).toNat by omega) with h9 | h9
  · exact schedB_f (d.getD q 0).toNat (by omega) fun hh => hh.2 _ h9 ⟨by omega, by omega⟩
  · exact schedB_f (d.getD k 0).toNat (by omega) fun hh => hh.2 _ h9 ⟨by omega, by omega⟩
/-- In a schedule no two begin at once. -/
theorem sched_apart {js : List Jb} {ss : List Int} (hg : givenB js ss = true) (hb : schedB js ss = true) (i k : Nat) (hi : i < ss.length) (hk : k < ss.length) (h : ss.getD i 0 = ss.getD k 0) : i = k := by
  obtain ⟨h1, h2, h3, h4⟩ := givenB_in hg
  rw [schedB_t] at hb
  have l1 := h4 i hi
  have l2 := h4 k hk
  rcases Nat.lt_trichotomy i k with h9 | h9 | h9
  · exact absurd ⟨by omega, by omega⟩ ((hb k hk).2 i h9)
  · exact h9
  · exact absurd ⟨by omega, by omega⟩ ((hb i hi).2 k h9)
/-- There is one order alone. -/
theorem order_one {ss d d' : List Int} {n : Nat} (hd : Order n d) (hd' : Order n d') (hs : Srt ss d n) (hs' : Srt ss d' n) (ha : ∀ i k : Nat, i < n → k < n → ss.getD i 0 = ss.getD k 0 → i = k) : d = d' := by
  have key : ∀ p, p < n → d.getD p 0 = d'.getD p 0 := by
    intro p
    induction p using Nat.strongRecOn with
    | _ p ih =>
      intro hp
      have r1 := hd.rng p hp
      have r2 := hd'.rng p hp
      obtain ⟨q, hq, eq⟩ := hd'.all (d.getD p 0).toNat (by omega)
      obtain ⟨r, hr, er⟩ := hd.all (d'.getD p 0).toNat (by omega)
      have q1 : p ≤ q := by
        rcases Nat.lt_or_ge q p with h | h
        · have := ih q h hq
          exact absurd (show d.getD q 0 = d.getD p 0 by omega) (hd.inj q p h hp)
        · exact h
      have q2 : p ≤ r := by
        rcases Nat.lt_or_ge r p with h | h
        · have := ih r h hr
          exact absurd (show d'.getD r 0 = d'.getD p 0 by omega) (hd'.inj r p h hp)
        · exact h
      have s1 : sk ss (d.getD p 0) ≤ sk ss (d'.getD p 0) := by
        have e1 : d'.getD p 0 = d.getD r 0 := by omega
        rw [e1]
        rcases Nat.lt_or_eq_of_le q2 with h | h
        · exact hs p r h hr
        · rw [← h]; exact Int.le_refl _
      have s2 : sk ss (d'.getD p 0) ≤ sk ss (d.getD p 0) := by
        have e1 : d.getD p 0 = d'.getD q 0 := by omega
        rw [e1]
        rcases Nat.lt_or_eq_of_le q1 with h | h
        · exact hs' p q h hq
        · rw [← h]; exact Int.le_refl _
      have := ha (d.getD p 0).toNat (d'.getD p 0).toNat (by omega) (by omega) (by unfold sk at s1 s2; omega)
      omega
  refine List.ext_getElem (by rw [hd.len, hd'.len]) fun p h1 h2 => ?_
  have := key p (by rw [hd.len] at h1; exact h1)
  simpa [h1, h2] using this
/-- The order of the starts. -/
def ordOf (ss : List Int) : List Int := (idx ss.length).mergeSort fun x y => decide (sk ss x ≤ sk ss y)
theorem ordOf_len (ss : List Int) : (ordOf ss).length = ss.length := by unfold ordOf; rw [List.length_mergeSort, idx_len]
theorem ordOf_order (ss : List Int) : Order ss.length (ordOf ss) := by
  have hp : (ordOf ss).Perm (idx ss.length) := List.mergeSort_perm _ _
  have hl := ordOf_len ss
  have hin : ∀ p, p < ss.length → (ordOf ss).getD p 0 ∈ ordOf ss := fun p h => by
    have : p < (ordOf ss).length := by omega
    simp [this]
  have hnd : (idx ss.length).Nodup := by
    unfold idx List.Nodup
    rw [List.pairwise_map]
    exact (List.nodup_range (n := ss.length)).imp (fun h e => h (Int.ofNat.inj e))
  have hnd' : (ordOf ss).Nodup := hp.nodup_iff.2 hnd
  refine ⟨hl, fun p h => ?_, fun i hi => ?_, fun p q h hq => ?_⟩
  · have := hp.mem_iff.1 (hin p h)
    unfold idx at this
    obtain ⟨k, hk, e⟩ := List.mem_map.1 this
    rw [← e]
    have : k < ss.length := by simpa using hk
    simp; omega
  · have : (i : Int) ∈ ordOf ss := hp.mem_iff.2 (List.mem_map.2 ⟨i, by simpa using hi, rfl⟩)
    obtain ⟨p, hp1, e⟩ := List.getElem_of_mem this
    exact ⟨p, by omega, by simp [hp1, e]⟩
  · have h1 : p < (ordOf ss).length := by omega
    have h2 : q < (ordOf ss).length := by omega
    have := List.pairwise_iff_getElem.1 hnd' p q h1 h2 h
    simpa [h1, h2] using this
theorem ordOf_srt (ss : List Int) : Srt ss (ordOf ss) ss.length := by
  have := List.pairwise_mergeSort (le := fun x y : Int => decide (sk ss x ≤ sk ss y)) (fun a b c h1 h2 => by simp at h1 h2 ⊢; omega) (fun a b => by simp; omega) (idx ss.length)
  intro p q h hq
  have hl := ordOf_len ss
  have h1 : p < (ordOf ss).length := by omega
  have h2 : q < (ordOf ss).length := by omega
  have := List.pairwise_iff_getElem.1 this p q h1 h2 h
  have e1 : (ordOf ss).getD p 0 = (ordOf ss)[p] := by simp [h1]
  have e2 : (ordOf ss).getD q 0 = (ordOf ss)[q] := by simp [h2]
  rw [e1, e2]
  simp only [decide_eq_true_eq] at this
  exact this
theorem ord_is {js : List Jb} {ss d : List Int} (hg : givenB js ss = true) (hb : schedB js ss = true) (ho : Order ss.length d) (hs : Srt ss d ss.length) : d = ordOf ss :=
  order_one ho (ordOf_order ss) hs (ordOf_srt ss) (fun i k hi hk h => sched_apart hg hb i k hi hk h)

/-! What both sides give. -/
def schd (js : List Jb) (ss : List Int) : Bool := givenB js ss && schedB js ss
def isSched (js : List Jb) (ss : List Int) : Bool × Bool := if givenB js ss then (schedB js ss, true) else (false, false)
def orderStarts (js : List Jb) (ss : List Int) : List Int × Bool := if schd js ss then (ordOf ss, true) else ([], false)
def waitL (js : List Jb) (ss : List Int) (n : Nat) : List Int := (List.range n).map fun i => ss.getD i 0 - js[i]!.t
def waitsOf (js : List Jb) (ss : List Int) : List Int × Bool := if schd js ss then (waitL js ss ss.length, true) else ([], false)
def weighL (js : List Jb) (ss : List Int) : Nat → Int
  | 0 => 0
  | n + 1 => weighL js ss n + (ss.getD n 0 - js[n]!.t) * js[n]!.l
def weighted (js : List Jb) (ss : List Int) : Int × Bool := if schd js ss then (weighL js ss ss.length, true) else (0, false)
/-- Job i overtakes job k. -/
def over (js : List Jb) (ss : List Int) (i k : Nat) : Bool := decide (js[i]!.c < js[k]!.c) && (decide (js[k]!.t ≤ ss.getD i 0) && decide (ss.getD i 0 < ss.getD k 0))
def overRow (js : List Jb) (ss : List Int) (i : Nat) : Nat → Int
  | 0 => 0
  | k + 1 => overRow js ss i k + if over js ss i k then 1 else 0
def overL (js : List Jb) (ss : List Int) : Nat → Int
  | 0 => 0
  | i + 1 => overL js ss i + overRow js ss i ss.length
def overtaken (js : List Jb) (ss : List Int) : Int × Bool := if schd js ss then (overL js ss ss.length, true) else (0, false)
theorem orderStarts_len (js : List Jb) (ss : List Int) : (orderStarts js ss).1.length ≤ 1048576 := by
  unfold orderStarts
  split
  · rename_i h
    have h1 : givenB js ss = true ∧ schedB js ss = true := by simpa [schd] using h
    have := givenB_in h1.1
    simp only
    rw [ordOf_len]
    omega
  · simp
theorem waitsOf_len (js : List Jb) (ss : List Int) : (waitsOf js ss).1.length ≤ 1048576 := by
  unfold waitsOf
  split
  · rename_i h
    have h1 : givenB js ss = true ∧ schedB js ss = true := by simpa [schd] using h
    have := givenB_in h1.1
    simp [waitL]
    omega
  · simp
theorem overRow_bd (js : List Jb) (ss : List Int) (i k : Nat) : 0 ≤ overRow js ss i k ∧ overRow js ss i k ≤ k := by
  induction k with
  | zero => simp [overRow]
  | succ k ih =>
    have e : overRow js ss i (k + 1) = overRow js ss i k + if over js ss i k then 1 else 0 := rfl
    rw [e]
    split <;> (push_cast; omega)
end Go.Proofs.Yteoggoopfjkdkaa
