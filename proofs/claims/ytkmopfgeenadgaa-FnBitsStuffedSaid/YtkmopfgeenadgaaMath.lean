/-
  Plain mathematics of the check: no dump is imported.
-/
import Derived.Test.YtkmopfgeenadgaaWords
import Derived.Laws.BitsAllLaws
import Derived.Laws.BitsLemmas
namespace Go.Proofs.Ytkmopfgeenadgaa
open Go.RowKit

theorem ofInt_i64 (a : Nat) (ha : a < 9223372036854775808) : (BitVec.ofInt 64 (a : Int)).toNat = a := by
  rw [BitVec.ofInt_natCast, BitVec.toNat_ofNat]; exact Nat.mod_eq_of_lt (by omega)
theorem i64_xor_nat (a b : Nat) (ha : a < 9223372036854775808) (hb : b < 9223372036854775808) : bits .xor .i64 (a : Int) (b : Int) = ((a ^^^ b : Nat) : Int) := by
  have hx : a ^^^ b < 2 ^ 63 := Nat.xor_lt_two_pow (by omega) (by omega)
  show IntKind.i64.wrap ((BitVec.ofInt 64 (a : Int) ^^^ BitVec.ofInt 64 (b : Int)).toNat : Int) = _
  rw [BitVec.toNat_xor, ofInt_i64 a ha, ofInt_i64 b hb, IntKind.wrap_i64]
  omega
theorem i64_and_nat (a b : Nat) (ha : a < 9223372036854775808) (hb : b < 9223372036854775808) : bits .and .i64 (a : Int) (b : Int) = ((a &&& b : Nat) : Int) := by
  have hx : a &&& b < 2 ^ 63 := Nat.and_lt_two_pow _ (by omega)
  show IntKind.i64.wrap ((BitVec.ofInt 64 (a : Int) &&& BitVec.ofInt 64 (b : Int)).toNat : Int) = _
  rw [BitVec.toNat_and, ofInt_i64 a ha, ofInt_i64 b hb, IntKind.wrap_i64]
  omega

theorem and_one (q : Nat) (hq : q < 256) : bits .and .i64 (q : Int) 1 = ((q % 2 : Nat) : Int) := by
  have := i64_and_nat q 1 (by omega) (by omega)
  rw [Nat.and_one_is_mod] at this
  exact this

/-- A remainder times x. -/
def tX (r : Nat) : Nat := if 127 < r then (2 * r) ^^^ 263 else 2 * r
theorem tX_all : ∀ r : Fin 256, tX r.val < 256 ∧ (127 < r.val → (2 * r.val) ^^^ 263 = (2 * r.val % 256) ^^^ 7) := by decide +kernel
theorem tX_lt (r : Nat) (h : r < 256) : tX r < 256 := (tX_all ⟨r, h⟩).1
theorem tX_two (r : Nat) (h : r < 256) (h2 : 127 < r) : (2 * r) ^^^ 263 = (2 * r % 256) ^^^ 7 := (tX_all ⟨r, h⟩).2 h2
def tXn : Nat → Nat → Nat
  | 0, r => r
  | n + 1, r => tX (tXn n r)
theorem tXn_lt (n r : Nat) (h : r < 256) : tXn n r < 256 := by
  induction n with
  | zero => exact h
  | succ n ih => exact tX_lt _ ih
theorem xor_lt256 {a b : Nat} (ha : a < 256) (hb : b < 256) : a ^^^ b < 256 := Nat.xor_lt_two_pow (n := 8) ha hb
/-- The check of bytes. -/
def chk (l : List Int) : Nat := l.foldl (fun r b => tXn 8 (r ^^^ b.toNat)) 0
theorem chk_snoc (l : List Int) (k : Nat) (hk : k < l.length) : chk (l.take (k + 1)) = tXn 8 (chk (l.take k) ^^^ (l.getD k 0).toNat) := by
  have hg : l.getD k 0 = l[k] := by simp [hk]
  rw [List.take_succ_eq_append_getElem hk, hg]
  unfold chk
  rw [List.foldl_append, List.foldl_cons, List.foldl_nil]
theorem chk_lt_take (l : List Int) (h : ∀ j, j < l.length → 0 ≤ l.getD j 0 ∧ l.getD j 0 ≤ 255) (k : Nat) (hk : k ≤ l.length) : chk (l.take k) < 256 := by
  induction k with
  | zero => simp [chk]
  | succ k ih =>
    rw [chk_snoc l k (by omega)]
    have := h k (by omega)
    exact tXn_lt _ _ (xor_lt256 (ih (by omega)) (by omega))

/-- Bit j of a byte, the greatest first. -/
def bitAt (b j : Nat) : Int := ((b / 2 ^ (7 - j) % 2 : Nat) : Int)
def bitsB (b : Nat) : List Int := (List.range 8).map (bitAt b)
/-- The bits of bytes. -/
def bitsL (l : List Int) : List Int := l.flatMap fun x => bitsB x.toNat
theorem bitsB_length (b : Nat) : (bitsB b).length = 8 := by simp [bitsB]
theorem bitsL_length (l : List Int) : (bitsL l).length = 8 * l.length := by
  induction l with
  | nil => rfl
  | cons x l ih => simp only [bitsL, List.flatMap_cons, List.length_append, bitsB_length, List.length_cons] at ih ⊢; omega
theorem bitsL_snoc (l : List Int) (k : Nat) (hk : k < l.length) : bitsL (l.take (k + 1)) = bitsL (l.take k) ++ (bitsB (l.getD k 0).toNat).take 8 := by
  have hg : l.getD k 0 = l[k] := by simp [hk]
  have h8 : (bitsB l[k].toNat).take 8 = bitsB l[k].toNat := List.take_of_length_le (by rw [bitsB_length]; omega)
  rw [List.take_succ_eq_append_getElem hk, hg, h8]
  simp only [bitsL, List.flatMap_append, List.flatMap_cons, List.flatMap_nil, List.append_nil]
theorem bitsB_take (b j : Nat) (hj : j < 8) : (bitsB b).take (j + 1) = (bitsB b).take j ++ [bitAt b j] := by
  rw [List.take_succ_eq_append_getElem (by rw [bitsB_length]; exact hj)]
  simp [bitsB]
theorem bitAt_01 (b j : Nat) : bitAt b j = 0 ∨ bitAt b j = 1 := by unfold bitAt; omega
/-- The number of j bits from place a on. -/
def pc (l : List Int) (a j : Nat) : Int := ((l.drop a).take j).foldl (fun b x => 2 * b + x) 0
theorem pc_zero (l : List Int) (a : Nat) : pc l a 0 = 0 := by simp [pc]
theorem pc_succ (l : List Int) (a j : Nat) (h : a + j < l.length) : pc l a (j + 1) = 2 * pc l a j + l.getD (a + j) 0 := by
  have hj : j < (l.drop a).length := by rw [List.length_drop]; omega
  unfold pc
  rw [List.take_succ_eq_append_getElem hj, List.foldl_append, List.foldl_cons, List.foldl_nil]
  have e : (l.drop a)[j] = l.getD (a + j) 0 := by simp [h]
  rw [e]
theorem pc_bd (l : List Int) (a : Nat) (hb : ∀ j, j < l.length → 0 ≤ l.getD j 0 ∧ l.getD j 0 ≤ 1) (j : Nat) (h : a + j ≤ l.length) (h8 : j ≤ 8) : 0 ≤ pc l a j ∧ pc l a j + 1 ≤ ((2 ^ j : Nat) : Int) := by
  induction j with
  | zero => rw [pc_zero]; simp
  | succ j ih =>
    have := ih (by omega) (by omega)
    have hx := hb (a + j) (by omega)
    rw [pc_succ l a j (by omega), Nat.pow_succ]
    omega
theorem pc_255 (l : List Int) (a : Nat) (hb : ∀ j, j < l.length → 0 ≤ l.getD j 0 ∧ l.getD j 0 ≤ 1) (j : Nat) (h : a + j ≤ l.length) (h8 : j ≤ 8) : 0 ≤ pc l a j ∧ pc l a j ≤ 255 := by
  have h1 := pc_bd l a hb j h h8
  have h2 : 2 ^ j ≤ 2 ^ 8 := Nat.pow_le_pow_right (by omega) h8
  have h3 : (2 : Nat) ^ 8 = 256 := rfl
  omega
/-- The bytes of bits. -/
def fromB (l : List Int) (n : Nat) : List Int := (List.range n).map fun i => pc l (8 * i) 8
theorem fromB_length (l : List Int) (n : Nat) : (fromB l n).length = n := by simp [fromB]
theorem fromB_succ (l : List Int) (n : Nat) : fromB l (n + 1) = fromB l n ++ [pc l (8 * n) 8] := by simp [fromB, List.range_succ]
/-- The bytes of the first k bits. -/
def rowAt (l : List Int) (k : Nat) : List Int := (List.range (l.length / 8)).map fun i => pc l (8 * i) (min 8 (k - 8 * i))
theorem rowAt_length (l : List Int) (k : Nat) : (rowAt l k).length = l.length / 8 := by simp [rowAt]
theorem rowAt_get (l : List Int) (k i : Nat) (h : i < l.length / 8) : (rowAt l k).getD i 0 = pc l (8 * i) (min 8 (k - 8 * i)) := by simp [rowAt, h]
theorem rowAt_zero (l : List Int) : ics (rowAt l 0) = List.replicate (l.length / 8) (.int .i64 0) := by
  apply List.ext_getElem
  · simp [ics, rowAt]
  · intro i h1 h2
    simp [ics, rowAt, pc_zero]
theorem rowAt_full (l : List Int) (h : l.length % 8 = 0) : rowAt l l.length = fromB l (l.length / 8) := by
  unfold rowAt fromB
  apply List.map_congr_left
  intro i hi
  have : i < l.length / 8 := by simpa using hi
  have e : min 8 (l.length - 8 * i) = 8 := by omega
  rw [e]
theorem rowAt_set (l : List Int) (k : Nat) (hk : k < l.length) (h : l.length % 8 = 0) :
    (ics (rowAt l k)).set (k / 8) (.int .i64 (pc l (8 * (k / 8)) (min 8 (k - 8 * (k / 8))) * 2 + l.getD k 0)) = ics (rowAt l (k + 1)) := by
  apply List.ext_getElem
  · simp [ics, rowAt]
  · intro i h1 h2
    simp only [List.getElem_set, ics, List.getElem_map, rowAt, List.getElem_range]
    by_cases hi : k / 8 = i
    · subst hi
      rw [if_pos rfl]
      have e1 : min 8 (k + 1 - 8 * (k / 8)) = (k - 8 * (k / 8)) + 1 := by omega
      have e2 : min 8 (k - 8 * (k / 8)) = k - 8 * (k / 8) := by omega
      have e3 : 8 * (k / 8) + (k - 8 * (k / 8)) = k := by omega
      rw [e1, e2, pc_succ l _ _ (by omega), e3]
      congr 1
      omega
    · rw [if_neg hi]
      have e : min 8 (k + 1 - 8 * i) = min 8 (k - 8 * i) := by omega
      rw [e]
end Go.Proofs.Ytkmopfgeenadgaa
