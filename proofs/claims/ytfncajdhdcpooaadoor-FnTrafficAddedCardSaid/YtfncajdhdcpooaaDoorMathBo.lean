/-
  Mathematics of chapter 9: servers, their bounds, worst traffic. No dump is imported but for the small words on bounds.
-/
import Derived.Test.YtfncajdhdcpooaaDoorMathSh
namespace Go.Proofs.YtfncajdhdcpooaaDoor
open Go.RowKit
set_option maxRecDepth 100000
set_option linter.unusedVariables false

/-- A server as data. -/
structure Sv where
  r : Int
  l : Int
instance : Inhabited Sv := ⟨⟨0, 0⟩⟩
def SvV (x : Sv) : Value := .agg #[.int .i64 x.r, .int .i64 x.l]
def svOk (x : Sv) : Bool := wi x.r 1 100 && wi x.l 0 20
theorem svOk_in {x : Sv} (h : svOk x = true) : (1 ≤ x.r ∧ x.r ≤ 100) ∧ (0 ≤ x.l ∧ x.l ≤ 20) := by simpa [svOk, wi] using h
/-- Is the server as fast as the bucket? -/
def fitOk (v : Sv) (b : Bu) : Bool := svOk v && (buOk b && decide (b.r ≤ v.r))
theorem fitOk_in {v : Sv} {b : Bu} (h : fitOk v b = true) : ((1 ≤ v.r ∧ v.r ≤ 100) ∧ (0 ≤ v.l ∧ v.l ≤ 20)) ∧ ((1 ≤ b.r ∧ b.r ≤ 100) ∧ (1 ≤ b.d ∧ b.d ≤ 1000)) ∧ b.r ≤ v.r := by
  simp only [fitOk, Bool.and_eq_true, decide_eq_true_eq] at h
  exact ⟨svOk_in h.1, buOk_in h.2.1, h.2.2⟩
def bkbSays (v : Sv) (b : Bu) : Int × Bool := if fitOk v b = true then (b.d + b.r * v.l, true) else (0, false)
def dlbSays (v : Sv) (b : Bu) : Int × Bool := if fitOk v b = true then (v.l + (b.d + v.r - 1).tdiv v.r, true) else (0, false)
def joinV (a b : Sv) : Sv := ⟨min a.r b.r, a.l + b.l⟩
def rowSays (a b : Sv) : Sv × Bool := if (svOk a && (svOk b && svOk (joinV a b))) = true then (joinV a b, true) else (⟨0, 0⟩, false)
def bbhSays (v : Sv) (b : Bu) : Bu × Bool := if (fitOk v b && wi (b.d + b.r * v.l) 1 1000) = true then (⟨b.r, b.d + b.r * v.l⟩, true) else (⟨0, 0⟩, false)
/-- The worst traffic. -/
def wst (b : Bu) : Nat → List Int
  | 0 => []
  | n + 1 => b.d :: List.replicate n (min b.r b.d)
theorem wst_length (b : Bu) (n : Nat) : (wst b n).length = n := by cases n <;> simp [wst]
def worstSays (b : Bu) (n : Int) : List Int × Bool := if (buOk b && wi n 0 40) = true then (wst b n.toNat, true) else ([], false)
theorem worstSays_len (b : Bu) (n : Int) : (worstSays b n).1.length ≤ 1048576 := by
  unfold worstSays
  split
  · rename_i h
    simp only [Bool.and_eq_true, wi, decide_eq_true_eq] at h
    rw [wst_length]
    omega
  · simp
theorem mul_small {a b : Int} (h1 : 1 ≤ a) (h2 : a ≤ 100) (h3 : 0 ≤ b) (h4 : b ≤ 20) : 0 ≤ a * b ∧ a * b ≤ 2000 := by
  have p := Int.mul_nonneg (show (0 : Int) ≤ a by omega) h3
  have q := Int.mul_le_mul (show a ≤ 100 by omega) h4 h3 (show (0 : Int) ≤ 100 by omega)
  omega
theorem tdiv_small {a b : Int} (h1 : 0 ≤ a) (h2 : a ≤ 2000) (h3 : 1 ≤ b) : 0 ≤ a.tdiv b ∧ a.tdiv b ≤ 2000 := by
  rw [Int.tdiv_eq_ediv_of_nonneg h1]
  have p := Int.ediv_nonneg h1 (show 0 ≤ b by omega)
  have q : a / b ≤ a := Int.ediv_le_self b h1
  omega
end Go.Proofs.YtfncajdhdcpooaaDoor
