/-
  Plain mathematics of the check: no dump is imported.
-/
import Derived.Test.YtaokdocflbabjaaWords
import Derived.Laws.BitsAllLaws
import Derived.Laws.BitsLemmas
namespace Go.Proofs.Ytaokdocflbabjaa
open Go.RowKit

theorem ofInt_i64 (a : Nat) (ha : a < 9223372036854775808) : (BitVec.ofInt 64 (a : Int)).toNat = a := by
  rw [BitVec.ofInt_natCast, BitVec.toNat_ofNat]; exact Nat.mod_eq_of_lt (by omega)
theorem i64_xor_nat (a b : Nat) (ha : a < 9223372036854775808) (hb : b < 9223372036854775808) : bits .xor .i64 (a : Int) (b : Int) = ((a ^^^ b : Nat) : Int) := by
  have hx : a ^^^ b < 2 ^ 63 := Nat.xor_lt_two_pow (by omega) (by omega)
  show IntKind.i64.wrap ((BitVec.ofInt 64 (a : Int) ^^^ BitVec.ofInt 64 (b : Int)).toNat : Int) = _
  rw [BitVec.toNat_xor, ofInt_i64 a ha, ofInt_i64 b hb, IntKind.wrap_i64]
  omega
theorem i64_and_nat (a b : Nat) (ha : a < 9223372036854775808) (hb : b < 9223372036854775808) : bits .and .i64 (a : Int) (b : Int) = ((a &&& b : Nat) : Int) := by
  have hx : a &&& b < 2 ^ 63 := Nat.and_lt_two_pow _ (by omega)
  show IntKind.i64.wrap ((BitVec.ofInt 64 (a : Int) &&& BitVec.ofInt 64 (b : Int)).toNat : Int) = _
  rw [BitVec.toNat_and, ofInt_i64 a ha, ofInt_i64 b hb, IntKind.wrap_i64]
  omega

/-- A remainder times x. -/
def tX (r : Nat) : Nat := if 127 < r then (2 * r) ^^^ 263 else 2 * r
theorem tX_all : ∀ r : Fin 256, tX r.val < 256 ∧ (127 < r.val → (2 * r.val) ^^^ 263 = (2 * r.val % 256) ^^^ 7) := by decide +kernel
theorem tX_lt (r : Nat) (h : r < 256) : tX r < 256 := (tX_all ⟨r, h⟩).1
theorem tX_two (r : Nat) (h : r < 256) (h2 : 127 < r) : (2 * r) ^^^ 263 = (2 * r % 256) ^^^ 7 := (tX_all ⟨r, h⟩).2 h2
def tXn : Nat → Nat → Nat
  | 0, r => r
  | n + 1, r => tX (tXn n r)
theorem tXn_lt (n r : Nat) (h : r < 256) : tXn n r < 256 := by
  induction n with
  | zero => exact h
  | succ n ih => exact tX_lt _ ih
theorem xor_lt256 {a b : Nat} (ha : a < 256) (hb : b < 256) : a ^^^ b < 256 := Nat.xor_lt_two_pow (n := 8) ha hb
/-- The check of bytes. -/
def chk (l : List Int) : Nat := l.foldl (fun r b => tXn 8 (r ^^^ b.toNat)) 0
theorem chk_snoc (l : List Int) (k : Nat) (hk : k < l.length) : chk (l.take (k + 1)) = tXn 8 (chk (l.take k) ^^^ (l.getD k 0).toNat) := by
  have hg : l.getD k 0 = l[k] := by simp [hk]
  rw [List.take_succ_eq_append_getElem hk, hg]
  unfold chk
  rw [List.foldl_append, List.foldl_cons, List.foldl_nil]
theorem chk_lt_take (l : List Int) (h : ∀ j, j < l.length → 0 ≤ l.getD j 0 ∧ l.getD j 0 ≤ 255) (k : Nat) (hk : k ≤ l.length) : chk (l.take k) < 256 := by
  induction k with
  | zero => simp [chk]
  | succ k ih =>
    rw [chk_snoc l k (by omega)]
    have := h k (by omega)
    exact tXn_lt _ _ (xor_lt256 (ih (by omega)) (by omega))
end Go.Proofs.Ytaokdocflbabjaa
