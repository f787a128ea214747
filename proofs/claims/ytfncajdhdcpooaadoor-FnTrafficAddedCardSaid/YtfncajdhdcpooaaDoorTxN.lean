/-
  Numbers as texts: the contracts of the model's numeral and of strconv.Itoa.
-/
import Derived.Test.YtfncajdhdcpooaaDoorTxA
import Derived.Test.YtfncajdhdcpooaaDoorShelf
import Derived.Lib.AppendIntMem
import Derived.Lib.ItoaLen
namespace Go.Proofs.YtfncajdhdcpooaaDoor
open Go.RowKit Go.Conc
set_option maxRecDepth 100000
set_option linter.unusedVariables false

theorem itoa_short {x : Int} (h : 0 ≤ x ∧ x ≤ 1000) : (Lib.itoa x).length ≤ 21 := Lib.itoa_length_le x (by omega) (by omega)
theorem itoa_nB {x : Int} (h : 0 ≤ x) : Lib.itoa x = nB x.toNat := by
  unfold Lib.itoa nB
  rw [if_neg (by omega)]
theorem numOf_any (x : Int) (w : World) (h : 0 ≤ x ∧ x ≤ 1000) : Calls Tryd.prog 38 #[.int .i64 x] w (RetV w (.string ⟨(Lib.itoa x).toArray⟩)) := by
  have h1 := l1Num_any (x.toNat + 1) x.toNat w (by omega) (by omega)
  rw [show ((x.toNat : Nat) : Int) = x from by omega, ← itoa_nB h.1] at h1
  exact h1
theorem app_str (a b : List UInt8) : (⟨a.toArray⟩ : ByteArray) ++ ⟨b.toArray⟩ = ⟨(a ++ b).toArray⟩ := by
  apply ByteArray.ext
  simp
/-- A number's text as a value. -/
def nV (x : Int) : Value := .string ⟨(Lib.itoa x).toArray⟩
theorem itoa_below (x : Int) (w : World) (h : 0 ≤ x ∧ x ≤ 1000) (ht : Lib.TabIs Tryd.prog w "internal/strconv.uint64pow10" .u64 Lib.pow10Tab) :
    Calls Tryd.prog 49 #[.int .i64 x] w (RetV w (nV x)) :=
  (Tryd.strconv_Itoa x (by omega) (by omega) w ht).mono fun e w' ⟨he, k, os, hw⟩ => ⟨he, by rw [hw]; exact Lib.below_grow _ w (Nat.le_refl _) k os⟩
end Go.Proofs.YtfncajdhdcpooaaDoor
