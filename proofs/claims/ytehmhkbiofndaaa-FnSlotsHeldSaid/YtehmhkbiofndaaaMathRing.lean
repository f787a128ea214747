/-
  Plain mathematics of rings: ways, link by link, in one direction or the other. No dump is imported.
-/
import Derived.Test.YtehmhkbiofndaaaWords
namespace Go.Proofs.Ytehmhkbiofndaaa

/-- The station behind, the station before. -/
def nx (k s : Int) : Int := (s + 1) % k
def bf (k s : Int) : Int := (s + k - 1) % k
theorem nx_eq {k s : Int} (h0 : 0 ≤ s) (h1 : s < k) : nx k s = if s + 1 = k then 0 else s + 1 := by
  unfold nx
  split
  · next h => rw [h, Int.emod_self]
  · exact Int.emod_eq_of_lt (by omega) (by omega)
theorem bf_eq {k s : Int} (h0 : 0 ≤ s) (h1 : s < k) : bf k s = if s = 0 then k - 1 else s - 1 := by
  unfold bf
  split
  · next h => subst h; rw [show (0 : Int) + k - 1 = k - 1 from by omega]; exact Int.emod_eq_of_lt (by omega) (by omega)
  · have e : s + k - 1 = (s - 1) + k := by omega
    rw [e, Int.add_emod_right]
    exact Int.emod_eq_of_lt (by omega) (by omega)
theorem nx_in {k s : Int} (h0 : 0 ≤ s) (h1 : s < k) : 0 ≤ nx k s ∧ nx k s < k := by rw [nx_eq h0 h1]; split <;> omega
theorem bf_in {k s : Int} (h0 : 0 ≤ s) (h1 : s < k) : 0 ≤ bf k s ∧ bf k s < k := by rw [bf_eq h0 h1]; split <;> omega
/-- A link that is broken. -/
def hasI (d : List Int) (s : Int) : Bool := d.contains s
theorem hasI_iff {d : List Int} {s : Int} : hasI d s = true ↔ s ∈ d := by simp [hasI]
/-- Over the link of s; over the second link to the station before. -/
def fw (d : List Int) (k : Int) (s : Int) : Option Int := if hasI d s then none else some (nx k s)
def bw (d : List Int) (k : Int) (s : Int) : Option Int := if hasI d (bf k s) then none else some (bf k s)
/-- The stations of a way of n steps, the first one left out. -/
def wayL (ld : Int → Option Int) : Nat → Int → Option (List Int)
  | 0, _ => some []
  | n + 1, s => (ld s).bind fun t => (wayL ld n t).map (t :: ·)
theorem wayL_len {ld : Int → Option Int} {n : Nat} {s : Int} {l : List Int} (h : wayL ld n s = some l) : l.length = n := by
  induction n generalizing s l with
  | zero => simp [wayL] at h; simp [← h]
  | succ n ih =>
    simp only [wayL, Option.bind_eq_some_iff, Option.map_eq_some_iff] at h
    obtain ⟨t, _, m, h2, rfl⟩ := h
    simp [ih h2]
/-- How many steps are still to go, forwards and backwards. -/
def gapF (k b s : Int) : Nat := ((b - s) % k).toNat
def gapB (k b s : Int) : Nat := ((s - b) % k).toNat
theorem gapF_eq {k b s : Int} (hb : 0 ≤ b ∧ b < k) (hs : 0 ≤ s ∧ s < k) : (gapF k b s : Int) = if s ≤ b then b - s else b - s + k := by
  unfold gapF
  split
  · rw [Int.emod_eq_of_lt (by omega) (by omega)]; omega
  · have e : (b - s) % k = b - s + k := by
      rw [← Int.add_emod_right]
      exact Int.emod_eq_of_lt (by omega) (by omega)
    rw [e]; omega
theorem gapB_F {k b s : Int} : gapB k b s = gapF k s b := rfl
/-- What a way's loop asks of a direction and of the steps still to go. -/
structure Leads (k b : Int) (ld : Int → Option Int) (gap : Int → Nat) : Prop where
  zero : ∀ s, 0 ≤ s → s < k → (gap s = 0 ↔ s = b)
  step : ∀ s t, 0 ≤ s → s < k → ld s = some t → (0 ≤ t ∧ t < k) ∧ (s ≠ b → gap s = gap t + 1)
  small : ∀ s, 0 ≤ s → s < k → (gap s : Int) < k
theorem leadsF (d : List Int) (k b : Int) (hb : 0 ≤ b ∧ b < k) : Leads k b (fw d k) (gapF k b) where
  zero s h0 h1 := by have := gapF_eq hb ⟨h0, h1⟩; split at this <;> omega
  small s h0 h1 := by have := gapF_eq hb ⟨h0, h1⟩; split at this <;> omega
  step s t h0 h1 h := by
    unfold fw at h
    split at h
    · cases h
    · injection h with h
      subst h
      have h2 := nx_in h0 h1
      refine ⟨h2, fun hne => ?_⟩
      have h3 := gapF_eq hb ⟨h0, h1⟩
      have h4 := gapF_eq hb h2
      have h5 := nx_eq h0 h1
      split at h5 <;> split at h3 <;> split at h4 <;> omega
theorem leadsB (d : List Int) (k b : Int) (hb : 0 ≤ b ∧ b < k) : Leads k b (bw d k) (gapB k b) where
  zero s h0 h1 := by have := gapF_eq ⟨h0, h1⟩ hb; rw [gapB_F]; split at this <;> omega
  small s h0 h1 := by have := gapF_eq ⟨h0, h1⟩ hb; rw [gapB_F]; split at this <;> omega
  step s t h0 h1 h := by
    unfold bw at h
    split at h
    · cases h
    · injection h with h
      subst h
      have h2 := bf_in h0 h1
      refine ⟨h2, fun hne => ?_⟩
      have h3 := gapF_eq ⟨h0, h1⟩ hb
      have h4 := gapF_eq h2 hb
      have h5 := bf_eq h0 h1
      rw [gapB_F, gapB_F]
      split at h5 <;> split at h3 <;> split at h4 <;> omega
/-- The loop's state: what is passed so far, and what is still to come. -/
def Onway (ld : Int → Option Int) (full : Option (List Int)) (n : Nat) (s : Int) (acc : List Int) : Prop := full = (wayL ld n s).map (acc ++ ·)
theorem Onway.start (ld : Int → Option Int) (n : Nat) (a : Int) : Onway ld ((wayL ld n a).map (a :: ·)) n a [a] := by
  unfold Onway
  simp
theorem Onway.next {ld : Int → Option Int} {full : Option (List Int)} {n : Nat} {s t : Int} {acc : List Int} (h : Onway ld full (n + 1) s acc) (hs : ld s = some t) : Onway ld full n t (acc ++ [t]) := by
  unfold Onway at h ⊢
  rw [h, wayL, hs]
  simp [Option.map_map, Function.comp_def]
theorem Onway.stop {ld : Int → Option Int} {full : Option (List Int)} {n : Nat} {s : Int} {acc : List Int} (h : Onway ld full (n + 1) s acc) (hs : ld s = none) : full = none := by
  unfold Onway at h
  rw [h, wayL, hs]
  rfl
theorem Onway.done {ld : Int → Option Int} {full : Option (List Int)} {s : Int} {acc : List Int} (h : Onway ld full 0 s acc) : full = some acc := by
  unfold Onway at h
  rw [h]
  simp [wayL]
/-- A way is open if no link on it is broken. -/
theorem openF (d : List Int) (k : Int) (n : Nat) (s : Int) (h0 : 0 ≤ s) (h1 : s < k) : (wayL (fw d k) n s).isSome = true ↔ ∀ j : Nat, j < n → hasI d ((s + j) % k) = false := by
  induction n generalizing s with
  | zero => simp [wayL]
  | succ n ih =>
    have h2 := nx_in h0 h1
    have he : s % k = s := Int.emod_eq_of_lt h0 h1
    have hj : ∀ j : Nat, (nx k s + (j : Int)) % k = (s + ((j + 1 : Nat) : Int)) % k := by
      intro j
      unfold nx
      rw [Int.emod_add_emod]
      congr 1
      push_cast
      omega
    unfold wayL
    cases hf : hasI d s with
    | true =>
      simp only [fw, hf, if_true, Option.bind_none, Option.isSome_none, Bool.false_eq_true, false_iff]
      intro hall
      have := hall 0 (by omega)
      simp [he, hf] at this
    | false =>
      have hfw : fw d k s = some (nx k s) := by simp [fw, hf]
      simp only [hfw, Option.bind_some, Option.isSome_map]
      rw [ih (nx k s) h2.1 h2.2]
      constructor
      · intro h j hjn
        cases j with
        | zero => simpa [he] using hf
        | succ j => rw [← hj]; exact h j (by omega)
      · intro h j hjn
        rw [hj]
        exact h (j + 1) (by omega)
theorem openB (d : List Int) (k : Int) (n : Nat) (s : Int) (h0 : 0 ≤ s) (h1 : s < k) : (wayL (bw d k) n s).isSome = true ↔ ∀ j : Nat, j < n → hasI d ((s - 1 - j) % k) = false := by
  induction n generalizing s with
  | zero => simp [wayL]
  | succ n ih =>
    have h2 := bf_in h0 h1
    have he : bf k s = (s - 1) % k := by
      unfold bf
      rw [show s + k - 1 = (s - 1) + k from by omega, Int.add_emod_right]
    have hj : ∀ j : Nat, (bf k s - 1 - (j : Int)) % k = (s - 1 - ((j + 1 : Nat) : Int)) % k := by
      intro j
      rw [he, show (s - 1) % k - 1 - (j : Int) = (s - 1) % k + (- 1 - (j : Int)) from by omega, Int.emod_add_emod]
      congr 1
      push_cast
      omega
    unfold wayL
    cases hf : hasI d (bf k s) with
    | true =>
      simp only [bw, hf, if_true, Option.bind_none, Option.isSome_none, Bool.false_eq_true, false_iff]
      intro hall
      have := hall 0 (by omega)
      rw [Int.natCast_zero, Int.sub_zero, ← he, hf] at this
      cases this
    | false =>
      have hbw : bw d k s = some (bf k s) := by simp [bw, hf]
      simp only [hbw, Option.bind_some, Option.isSome_map]
      rw [ih (bf k s) h2.1 h2.2]
      constructor
      · intro h j hjn
        cases j with
        | zero => rw [Int.natCast_zero, Int.sub_zero, ← he]; exact hf
        | succ j => rw [← hj]; exact h j (by omega)
      · intro h j hjn
        rw [hj]
        exact h (j + 1) (by omega)
/-- Backwards from a to b is forwards from b to a. -/
theorem open_back (d : List Int) (k a b : Int) (ha : 0 ≤ a ∧ a < k) (hb : 0 ≤ b ∧ b < k) : (wayL (bw d k) (gapB k b a) a).isSome = (wayL (fw d k) (gapF k a b) b).isSome := by
  rw [gapB_F, Bool.eq_iff_iff, openB d k _ a ha.1 ha.2, openF d k _ b hb.1 hb.2]
  have hg := gapF_eq ha hb
  have key : ∀ j : Nat, j < gapF k a b → (a - 1 - (j : Int)) % k = (b + ((gapF k a b - 1 - j : Nat) : Int)) % k := by
    intro j hj
    have e : ((gapF k a b - 1 - j : Nat) : Int) = (gapF k a b : Int) - 1 - j := by omega
    rw [e, hg]
    split
    · congr 1; omega
    · rw [show b + (a - b + k - 1 - (j : Int)) = (a - 1 - j) + k from by omega, Int.add_emod_right]
  constructor
  · intro h j hj
    have := h (gapF k a b - 1 - j) (by omega)
    rw [key _ (by omega)] at this
    rwa [show gapF k a b - 1 - (gapF k a b - 1 - j) = j from by omega] at this
  · intro h j hj
    rw [key j hj]
    exact h _ (by omega)
end Go.Proofs.Ytehmhkbiofndaaa
