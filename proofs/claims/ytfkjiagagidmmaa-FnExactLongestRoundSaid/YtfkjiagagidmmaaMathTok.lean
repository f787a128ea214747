/-
  Token rings and calls as data: the conditions and the numbers that both sides give.
-/
import Derived.Test.YtfkjiagagidmmaaIn
namespace Go.Proofs.Ytfkjiagagidmmaa
open Go.RowKit
set_option maxRecDepth 100000

/-- A token ring as data. -/
structure Tr where
  k : Int
  h : Int
  q : Int
def TrV (x : Tr) : Value := .agg #[.int .i64 x.k, .int .i64 x.h, .int .i64 x.q]
def isTr (x : Tr) : Bool := wi x.k 2 12 && (wi x.h 1 10 && wi x.q 1 10)
theorem isTr_in {x : Tr} (h : isTr x = true) : (2 ≤ x.k ∧ x.k ≤ 12) ∧ (1 ≤ x.h ∧ x.h ≤ 10) ∧ (1 ≤ x.q ∧ x.q ≤ 10) := by simpa [isTr, wi] using h
/-- A call as data. -/
structure Cl where
  t : Int
  f : Int
  o : Int
def ClV (x : Cl) : Value := .agg #[.int .i64 x.t, .int .i64 x.f, .int .i64 x.o]
/-- The calls from here on, the one before them being at e. -/
def callsFrom (k : Int) : Int → List Cl → Bool
  | _, [] => true
  | e, c :: l => wi c.t e 1000 && (wi c.f 0 (k - 1) && (wi c.o 0 (k - 1) && callsFrom k c.t l))
def areCl (k : Int) (l : List Cl) : Bool := decide (l.length ≤ 20) && callsFrom k 0 l
def idleRound (x : Tr) : Int × Bool := if isTr x then (x.k * x.q, true) else (0, false)
def longRound (x : Tr) : Int × Bool := if isTr x then (x.k * (x.h + x.q), true) else (0, false)
def waitBound (x : Tr) (a : Int) : Int × Bool := if isTr x && wi a 0 100 then ((a.tdiv x.h + 1) * (x.k * (x.h + x.q)) + a - a.tdiv x.h * x.h - 1, true) else (0, false)
def fullShares (x : Tr) (n : Int) : List Int × Bool := if isTr x && wi n 0 100 then (List.replicate x.k.toNat (x.h * n), true) else ([], false)
def clBlock (k : Int) (n : Nat) (s : Nat) : List Cl := List.replicate n ⟨0, s, (s + 1) % k⟩
def clBlocks (k : Int) (n : Nat) (s : Nat) : List Cl := (List.range s).flatMap (clBlock k n)
def fullCalls (x : Tr) (n : Int) : List Cl × Bool := if isTr x && (wi n 0 10 && decide (x.k * n ≤ 20)) then (clBlocks x.k n.toNat x.k.toNat, true) else ([], false)
theorem fullShares_len (x : Tr) (n : Int) : (fullShares x n).1.length ≤ 1048576 := by
  unfold fullShares
  split
  · rename_i h
    simp only [Bool.and_eq_true] at h
    have := (isTr_in h.1).1
    simp
    omega
  · simp
end Go.Proofs.Ytfkjiagagidmmaa
