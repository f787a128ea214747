/-
  Mathematics of what a server sends: backlogs tick by tick, how long it goes on, delays. No dump is imported but for the small words on bounds.
-/
import Derived.Test.YtlanpfcjcafapaaMathSn
import Derived.Test.YtlanpfcjcafapaaMathBo
namespace Go.Proofs.Ytlanpfcjcafapaa
open Go.RowKit
set_option maxRecDepth 100000
set_option linter.unusedVariables false
/-- The backlog ahead of the tick t (the first number is nought). -/
def svS (x : Sv) (l : List Int) : Nat → Int × Int
  | 0 => (0, 0)
  | t + 1 => (0, (svS x l t).2 + l.getD t 0 - if x.l ≤ (t : Int) then min ((svS x l t).2 + l.getD t 0) x.r else 0)
/-- What is sent at the tick t. -/
def svG (x : Sv) (l : List Int) (t : Nat) : Int := if x.l ≤ (t : Int) then min ((svS x l t).2 + l.getD t 0) x.r else 0
theorem svS_succ (x : Sv) (l : List Int) (t : Nat) : svS x l (t + 1) = (0, (svS x l t).2 + l.getD t 0 - svG x l t) := rfl
def askV (x : Sv) (l : List Int) : Bool := svOk x && trOk l
theorem askV_in {x : Sv} {l : List Int} (h : askV x l = true) : svOk x = true ∧ trOk l = true := by simpa [askV] using h
theorem svS_in {x : Sv} {l : List Int} (hx : svOk x = true) (hl : trOk l = true) (t : Nat) : (0 ≤ (svS x l t).1 ∧ (svS x l t).1 ≤ 0) ∧ (0 ≤ (svS x l t).2 ∧ (svS x l t).2 ≤ 1000 * t) := by
  have h1 := svOk_in hx
  induction t with
  | zero => simp only [svS]; omega
  | succ t ih =>
    have h2 := trOk_at hl t
    rw [svS_succ]
    simp only [svG]
    split <;> omega
theorem svG_in {x : Sv} {l : List Int} (hx : svOk x = true) (hl : trOk l = true) (t : Nat) : 0 ≤ svG x l t ∧ svG x l t ≤ 1000 := by
  have h1 := svOk_in hx
  have h2 := svS_in hx hl t
  have h3 := trOk_at hl t
  unfold svG
  split <;> omega
/-- Does it go on at the tick t? -/
def svGo (x : Sv) (l : List Int) (t : Nat) : Bool := decide (t < l.length) || decide (0 < (svS x l t).2)
/-- Where it ends, from the tick t on, with f ticks left to try. -/
def svE (x : Sv) (l : List Int) : Nat → Nat → Option Nat
  | t, 0 => if svGo x l t = true then none else some t
  | t, f + 1 => if svGo x l t = true then svE x l (t + 1) f else some t
theorem svE_le {x : Sv} {l : List Int} {t f n : Nat} (h : svE x l t f = some n) : t ≤ n ∧ n ≤ t + f := by
  induction f generalizing t with
  | zero =>
    rw [svE] at h
    split at h
    · cases h
    · injection h with h; omega
  | succ f ih =>
    rw [svE] at h
    split at h
    · have := ih h; omega
    · injection h with h; omega
def svT (x : Sv) (l : List Int) (n : Nat) : List Int := (List.range n).map (svG x l)
theorem svT_succ (x : Sv) (l : List Int) (n : Nat) : svT x l (n + 1) = svT x l n ++ [svG x l n] := by simp [svT, List.range_succ]
theorem svT_length (x : Sv) (l : List Int) (n : Nat) : (svT x l n).length = n := by simp [svT]
theorem svT_at (x : Sv) (l : List Int) (n t : Nat) (ht : t < n) : (svT x l n).getD t 0 = svG x l t := by simp [svT, List.getD, ht]
/-- What is left behind each tick. -/
def svB (x : Sv) (l : List Int) (n : Nat) : List Int := (List.range n).map fun t => (svS x l (t + 1)).2
theorem svB_succ (x : Sv) (l : List Int) (n : Nat) : svB x l (n + 1) = svB x l n ++ [(svS x l (n + 1)).2] := by simp [svB, List.range_succ]
theorem svB_length (x : Sv) (l : List Int) (n : Nat) : (svB x l n).length = n := by simp [svB]
theorem svB_at (x : Sv) (l : List Int) (n t : Nat) (ht : t < n) : (svB x l n).getD t 0 = (svS x l (t + 1)).2 := by simp [svB, List.getD, ht]
def svRg (x : Sv) (l : List Int) : Option Nat := svE x l 0 100
theorem svRg_le {x : Sv} {l : List Int} {n : Nat} (h : svRg x l = some n) : n ≤ 100 := by have := svE_le h; omega
def svO (x : Sv) (l : List Int) : Option Nat → List Int × Bool
  | some n => (svT x l n, true)
  | none => ([], false)
def svOB (x : Sv) (l : List Int) : Option Nat → List Int
  | some n => svB x l n
  | none => []
def srvSays (x : Sv) (l : List Int) : List Int × Bool := if askV x l = true then svO x l (svRg x l) else ([], false)
theorem svO_len (x : Sv) (l : List Int) : (svO x l (svRg x l)).1.length ≤ 100 := by
  cases h : svRg x l with
  | none => simp [svO]
  | some n => have := svRg_le h; simp only [svO, svT_length]; exact this
theorem srvSays_len (x : Sv) (l : List Int) : (srvSays x l).1.length ≤ 1048576 := by
  unfold srvSays
  split
  · have := svO_len x l; omega
  · simp
/-- The greatest backlog behind the ticks ahead of n. -/
def svM (x : Sv) (l : List Int) : Nat → Int
  | 0 => 0
  | n + 1 => max (svM x l n) (svS x l (n + 1)).2
theorem svM_in {x : Sv} {l : List Int} (hx : svOk x = true) (hl : trOk l = true) (n : Nat) (hn : n ≤ 100) : 0 ≤ svM x l n ∧ svM x l n ≤ 100000 := by
  induction n with
  | zero => simp [svM]
  | succ n ih =>
    have h1 := svS_in hx hl (n + 1)
    have h2 := ih (by omega)
    simp only [svM]
    omega
def svOM (x : Sv) (l : List Int) : Option Nat → Int × Bool
  | some n => (svM x l n, true)
  | none => (0, false)
def bksSays (x : Sv) (l : List Int) : Int × Bool := if askV x l = true then svOM x l (svRg x l) else (0, false)

def svOD (x : Sv) (l : List Int) : Option Nat → Int × Bool
  | some n => (dlN l (svT x l n) l.length, true)
  | none => (0, false)
def dlsSays (x : Sv) (l : List Int) : Int × Bool := if askV x l = true then svOD x l (svRg x l) else (0, false)
theorem svT_mem {x : Sv} {l : List Int} (hx : svOk x = true) (hl : trOk l = true) (n : Nat) : ∀ y ∈ svT x l n, 0 ≤ y ∧ y ≤ 1000 := by
  intro y hy
  obtain ⟨t, _, rfl⟩ := List.mem_map.1 hy
  exact svG_in hx hl t
end Go.Proofs.Ytlanpfcjcafapaa
