/-
  Chapter 7: the contracts of AreStates, HoldersOf, FireStation, IsOneToken and SumOfMessages, both sides.
-/
import Derived.Test.YtgmknndmmpoliaaElD
namespace Go.Proofs.Ytgmknndmmpoliaa
open Go.RowKit
set_option maxRecDepth 100000
set_option linter.unusedVariables false

/-- What AreStates says, and HoldersOf, IsOneToken, FireStation. -/
def areRg (l : List Int) (k : Int) : Bool × Bool := if wi k 2 9 = true then (stOk l k, true) else (false, false)
def holdRg (l : List Int) (k : Int) : List Int × Bool := if stOk l k = true then (holdN l l.length, true) else ([], false)
theorem holdRg_len (l : List Int) (k : Int) : (holdRg l k).1.length ≤ 1048576 := by
  unfold holdRg
  split
  · rename_i h
    have h1 := stOk_len h
    have h2 := holdN_len l l.length
    simp only
    omega
  · simp
def oneB (l : List Int) : Bool := ((holdN l l.length).length : Int) == 1
def oneRg (l : List Int) (k : Int) : Bool × Bool := if stOk l k = true then (oneB l, true) else (false, false)
def fireOk (l : List Int) (k s : Int) : Bool := stOk l k && wi s 0 (l.length - 1) && holdB l s.toNat
def fireRg (l : List Int) (k s : Int) : List Int × Bool := if fireOk l k s = true then (fireL l k s.toNat, true) else ([], false)
theorem fireRg_len (l : List Int) (k s : Int) : (fireRg l k s).1.length ≤ 1048576 := by
  unfold fireRg
  split
  · rename_i h
    simp only [fireOk, Bool.and_eq_true] at h
    have h1 := stOk_len h.1.1
    simp only [fireL_length]
    omega
  · simp


theorem implOne_any (v : Value) (l : List Int) (w : World) (h : RI w w.heap.size v l) (hn : 2 ≤ l.length ∧ l.length ≤ 12) :
    Calls Try.prog 52 #[v] w (RetV w (.bool (oneB l))) := by
  have HH := Lib.hid (implHolders_any v l w h hn)
  have hle := holdN_len l l.length
  unfold oneB
  go_enter Try.func52, Try.ntmps52
  go_wp2_with fail
  refine HH.out.mono ?_; rintro e w1 ⟨u, rfl, ho, hb⟩
  obtain ⟨A9, c9, rfl, _, _⟩ := ho.ri
  have HB := Lib.hid hb
  clear hb ho HH
  generalize (holdN l l.length).length = n at *
  go_wp2_with fail
  go_ret
  exact ⟨by first | exact rfl | simp, HB.out⟩

/-- n!, and the sum as the program and the model have it. -/
def facN : Nat → Int
  | 0 => 1
  | k + 1 => facN k * ((k : Int) + 1)
def sumI (n : Nat) (f : Int) : Nat → Int
  | 0 => 0
  | i + 1 => sumI n f i + ((n : Int) * f).tdiv ((i : Int) + 1)
def sumS (f : Int) : Nat → Int
  | 0 => 0
  | i + 1 => sumS f i + f.tdiv ((i : Int) + 1)
def sumRg (n : Int) : Int × Bool := if wi n 2 12 = true then (sumI n.toNat (facN n.toNat) n.toNat, true) else (0, false)
theorem sum_same : ∀ n : Nat, 2 ≤ n → n ≤ 12 → (n : Int) * sumS (facN n) n = sumI n (facN n) n := by
  have h : ∀ n : Fin 13, 2 ≤ n.1 → (n.1 : Int) * sumS (facN n.1) n.1 = sumI n.1 (facN n.1) n.1 := by decide
  exact fun n h1 h2 => h ⟨n, by omega⟩ h1
theorem fac_in : ∀ n : Nat, n ≤ 12 → 1 ≤ facN n ∧ facN n ≤ 479001600 := by
  have h : ∀ n : Fin 13, 1 ≤ facN n.1 ∧ facN n.1 ≤ 479001600 := by decide
  exact fun n h2 => h ⟨n, by omega⟩
theorem tdiv_in {a b M : Int} (h : 0 ≤ a ∧ a ≤ M) (hb : 1 ≤ b) : 0 ≤ a.tdiv b ∧ a.tdiv b ≤ M := by
  rw [Int.tdiv_eq_ediv_of_nonneg h.1]
  have h1 := Int.ediv_nonneg h.1 (show 0 ≤ b by omega)
  have h2 := Int.ediv_le_self b h.1
  omega
theorem sumI_in (n : Nat) (f : Int) (hn : n ≤ 12) (hf : 1 ≤ f ∧ f ≤ 479001600) (i : Nat) (hi : i ≤ 12) : 0 ≤ sumI n f i ∧ sumI n f i ≤ 5748019200 * i := by
  induction i with
  | zero => simp [sumI]
  | succ i ih =>
    have h1 := ih (by omega)
    have h3 : 0 ≤ (n : Int) * f ∧ (n : Int) * f ≤ 5748019200 := by
      have a1 := Int.mul_le_mul (show (n : Int) ≤ 12 by omega) hf.2 (by omega) (by omega)
      have a2 := Int.mul_nonneg (show (0 : Int) ≤ n by omega) (show 0 ≤ f by omega)
      omega
    have h2 := tdiv_in (M := 5748019200) h3 (show 1 ≤ (i : Int) + 1 by omega)
    rw [sumI]
    push_cast
    omega
theorem sumS_in (f : Int) (hf : 1 ≤ f ∧ f ≤ 479001600) (i : Nat) (hi : i ≤ 12) : 0 ≤ sumS f i ∧ sumS f i ≤ 479001600 * i := by
  induction i with
  | zero => simp [sumS]
  | succ i ih =>
    have h1 := ih (by omega)
    have h2 := tdiv_in (M := 479001600) (show 0 ≤ f ∧ f ≤ 479001600 by omega) (show 1 ≤ (i : Int) + 1 by omega)
    rw [sumS]
    push_cast
    omega


end Go.Proofs.Ytgmknndmmpoliaa
