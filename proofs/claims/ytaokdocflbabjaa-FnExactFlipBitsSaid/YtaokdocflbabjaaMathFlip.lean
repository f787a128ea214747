/-
  Plain mathematics of flipped bits: no dump is imported.
-/
import Derived.Test.YtaokdocflbabjaaMath
namespace Go.Proofs.Ytaokdocflbabjaa
open Go.RowKit

/-- A byte with one bit turned, bits counted from the greatest. -/
def flipB (x j : Nat) : Nat := x ^^^ 2 ^ (7 - j)
theorem flipB_all : ∀ x : Fin 256, ∀ j : Fin 8, flipB x.val j.val < 256 ∧ bitsB (flipB x.val j.val) = (bitsB x.val).set j.val (1 - bitAt x.val j.val) := by decide +kernel
theorem flipB_lt (x j : Nat) (hx : x < 256) (hj : j < 8) : flipB x j < 256 := (flipB_all ⟨x, hx⟩ ⟨j, hj⟩).1
theorem flipB_bits (x j : Nat) (hx : x < 256) (hj : j < 8) : bitsB (flipB x j) = (bitsB x).set j (1 - bitAt x j) := (flipB_all ⟨x, hx⟩ ⟨j, hj⟩).2
theorem val_all : ∀ x : Fin 256, (bitsB x.val).foldl (fun b y => 2 * b + y) 0 = ((x.val : Nat) : Int) := by decide +kernel

theorem bitsL_cons (x : Int) (l : List Int) : bitsL (x :: l) = bitsB x.toNat ++ bitsL l := by simp [bitsL]
theorem bitsL_drop (l : List Int) (i : Nat) : (bitsL l).drop (8 * i) = bitsL (l.drop i) := by
  induction l generalizing i with
  | nil => simp [bitsL]
  | cons x l ih =>
    cases i with
    | zero => simp
    | succ i =>
      have e : 8 * (i + 1) = (bitsB x.toNat).length + 8 * i := by rw [bitsB_length]; omega
      rw [bitsL_cons, e, List.drop_append, List.drop_of_length_le (by omega)]
      have e2 : (bitsB x.toNat).length + 8 * i - (bitsB x.toNat).length = 8 * i := by omega
      rw [e2, List.nil_append, ih]
      rfl
/-- Bytes come back from their bits. -/
theorem fromB_bitsL (l : List Int) (hb : ∀ j, j < l.length → 0 ≤ l.getD j 0 ∧ l.getD j 0 ≤ 255) : fromB (bitsL l) l.length = l := by
  apply List.ext_getElem
  · simp [fromB]
  · intro i h1 h2
    have hi := hb i h2
    have hg : l.getD i 0 = l[i] := by simp [h2]
    rw [hg] at hi
    simp only [fromB, List.getElem_map, List.getElem_range, pc]
    rw [bitsL_drop, List.drop_eq_getElem_cons h2, bitsL_cons, List.take_append_of_le_length (by rw [bitsB_length]; omega), List.take_of_length_le (by rw [bitsB_length]; omega)]
    have := val_all ⟨l[i].toNat, by omega⟩
    simp only at this
    rw [this]
    omega
theorem bitsL_get (l : List Int) (i j : Nat) (hi : i < l.length) (hj : j < 8) : (bitsL l).getD (8 * i + j) 0 = bitAt (l.getD i 0).toNat j := by
  have hg : l.getD i 0 = l[i] := by simp [hi]
  have e : (bitsL l).getD (8 * i + j) 0 = ((bitsL l).drop (8 * i)).getD j 0 := by simp [List.getD, List.getElem?_drop]
  rw [e, bitsL_drop, List.drop_eq_getElem_cons hi, bitsL_cons, hg]
  have hjb : j < (bitsB l[i].toNat).length := by rw [bitsB_length]; exact hj
  rw [List.getD, List.getElem?_append_left hjb]
  simp [bitsB, hj]
theorem bitsL_set (l : List Int) (i j : Nat) (v y : Int) (hi : i < l.length) (hj : j < 8) (h : bitsB y.toNat = (bitsB (l.getD i 0).toNat).set j v) : (bitsL l).set (8 * i + j) v = bitsL (l.set i y) := by
  induction l generalizing i with
  | nil => simp at hi
  | cons x l ih =>
    cases i with
    | zero =>
      simp only [List.getD_cons_zero] at h
      rw [bitsL_cons, List.set_cons_zero, bitsL_cons, h, Nat.mul_zero, Nat.zero_add, List.set_append_left _ _ (by rw [bitsB_length]; exact hj)]
    | succ i =>
      have e : 8 * (i + 1) + j - (bitsB x.toNat).length = 8 * i + j := by rw [bitsB_length]; omega
      rw [bitsL_cons, List.set_cons_succ, bitsL_cons, List.set_append_right _ _ (by rw [bitsB_length]; omega), e, ih i (by simpa using hi) (by simpa using h)]

/-- Bytes, a place's bit turned. -/
def flipAt (l : List Int) (p : Int) : List Int := l.set (p.toNat / 8) ((flipB (l.getD (p.toNat / 8) 0).toNat (p.toNat % 8) : Nat) : Int)
def flipL (l : List Int) (ps : List Int) : List Int := ps.foldl flipAt l
theorem flipL_snoc (l ps : List Int) (k : Nat) (hk : k < ps.length) : flipL l (ps.take (k + 1)) = flipAt (flipL l (ps.take k)) (ps.getD k 0) := by
  have hg : ps.getD k 0 = ps[k] := by simp [hk]
  rw [List.take_succ_eq_append_getElem hk, hg]
  unfold flipL
  rw [List.foldl_append, List.foldl_cons, List.foldl_nil]
theorem flipAt_length (l : List Int) (p : Int) : (flipAt l p).length = l.length := by simp [flipAt]
theorem flipL_length (l ps : List Int) : (flipL l ps).length = l.length := by
  unfold flipL
  induction ps generalizing l with
  | nil => rfl
  | cons p ps ih => rw [List.foldl_cons, ih, flipAt_length]
/-- All are bytes. -/
def AreB (l : List Int) : Prop := ∀ j, j < l.length → 0 ≤ l.getD j 0 ∧ l.getD j 0 ≤ 255
theorem flipAt_bytes (l : List Int) (p : Int) (h : AreB l) : AreB (flipAt l p) := by
  intro j hj
  rw [flipAt_length] at hj
  unfold flipAt
  by_cases e : p.toNat / 8 = j
  · subst e
    have h1 := h _ hj
    have h2 := flipB_lt (l.getD (p.toNat / 8) 0).toNat (p.toNat % 8) (by omega) (by omega)
    simp only [List.getD, List.getElem?_set, hj, if_true, Option.getD_some]
    simp only [List.getD] at h2
    simp only [List.getD] at h1
    omega
  · simp only [List.getD, List.getElem?_set, e, if_false]
    exact h j hj
theorem flipL_bytes (l ps : List Int) (h : AreB l) : AreB (flipL l ps) := by
  unfold flipL
  induction ps generalizing l with
  | nil => exact h
  | cons p ps ih => rw [List.foldl_cons]; exact ih _ (flipAt_bytes _ _ h)
/-- One flip, of the bits as of the bytes. -/
theorem flipAt_bits (l : List Int) (p : Nat) (h : AreB l) (hp : p < 8 * l.length) : (bitsL l).set p (1 - (bitsL l).getD p 0) = bitsL (flipAt l (p : Int)) := by
  have e : p = 8 * (p / 8) + p % 8 := by omega
  have hi : p / 8 < l.length := by omega
  have hb := h _ hi
  have hg := bitsL_get l (p / 8) (p % 8) hi (by omega)
  rw [← e] at hg
  rw [hg]
  unfold flipAt
  rw [Int.toNat_natCast]
  have := bitsL_set l (p / 8) (p % 8) (1 - bitAt (l.getD (p / 8) 0).toNat (p % 8)) ((flipB (l.getD (p / 8) 0).toNat (p % 8) : Nat) : Int) hi (by omega) (by rw [Int.toNat_natCast]; exact flipB_bits _ _ (by omega) (by omega))
  rw [← e] at this
  exact this
/-- Places: strictly rising, within the bits. -/
def Rises (hi : Int) (ps : List Int) (k : Nat) : Prop := ∀ j, j < k → 0 ≤ ps.getD j 0 ∧ ps.getD j 0 ≤ hi ∧ (0 < j → ps.getD (j - 1) 0 < ps.getD j 0)
instance (hi : Int) (ps : List Int) (k : Nat) : Decidable (Rises hi ps k) := by unfold Rises; infer_instance
theorem Rises.succ {hi : Int} {ps : List Int} {k : Nat} (h : Rises hi ps k) (h1 : 0 ≤ ps.getD k 0) (h2 : ps.getD k 0 ≤ hi) (h3 : 0 < k → ps.getD (k - 1) 0 < ps.getD k 0) : Rises hi ps (k + 1) := by
  intro j hj
  by_cases e : j = k
  · subst e; exact ⟨h1, h2, h3⟩
  · exact h j (by omega)
theorem bitsL_01 (l : List Int) : ∀ x ∈ bitsL l, x = 0 ∨ x = 1 := by
  intro x hx
  simp only [bitsL, List.mem_flatMap, bitsB, List.mem_map] at hx
  obtain ⟨_, _, j, _, rfl⟩ := hx
  exact bitAt_01 _ _
end Go.Proofs.Ytaokdocflbabjaa
