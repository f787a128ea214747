/-
  Slots as values: arrays of three ints, as what a channel holds and as keys of a map; the small functions on them.
-/
import Derived.Test.YtehmhkbiofndaaaSSlotRing
import Derived.Test.YtehmhkbiofndaaaSMessage
import Derived.Test.YtehmhkbiofndaaaHeld
import Derived.Maps.OwnSet
import Derived.Maps.OwnOps
import Derived.DeepKeys4
import Derived.RegionTactic
import Derived.BigRegion
namespace Go.Proofs.Ytehmhkbiofndaaa
open Go.RowKit Go.Maps
set_option maxRecDepth 100000
set_option linter.unusedVariables false

def slV (a f o : Int) : Value := .agg #[.int .i64 a, .int .i64 f, .int .i64 o]
theorem slLaid : laidOutB Try.prog = true := by kernel_rfl
theorem slRow : (78 : TypeId) < Try.prog.types.size := of_decide_eq_true (by kernel_rfl)
theorem slWide : (match Try.prog.underlying 78 with | some (.array _ _) | some (.struct _) => true | _ => false) = true := by rw [Try.underlying78]
theorem slLaw : Keyed Try.prog 78 := Keyed.of_law (deep_law_laid slLaid (m := 2) (by omega) slRow (by kernel_rfl) slWide)
/-- What a slot reads as, as a key. -/
def slKey (a f o : Int) : Lit := .string (keyBytes [.int .i64 a, .int .i64 f, .int .i64 o])
theorem slSize : ∃ m, Try.prog.types.size = m + 1 := ⟨_, (by kernel_rfl : Try.prog.types.size = (Try.prog.types.size - 1) + 1)⟩
theorem slKey_is {a f o : Int} (ha : (Lit.int .i64 a).wf = true) (hf : (Lit.int .i64 f).wf = true) (ho : (Lit.int .i64 o).wf = true) : keyOf Try.prog 78 (slV a f o) = some (slKey a f o) := by
  have h1 : Try.prog.keyType 78 = true := by kernel_rfl
  have h2 : Try.prog.cellsOf 78 = 3 := by kernel_rfl
  have h3 : Try.prog.cellsOf 3 = 1 := by kernel_rfl
  obtain ⟨m, hm⟩ := slSize
  have h4 : (Value.agg #[.int .i64 a, .int .i64 f, .int .i64 o]).formed Try.prog 78 = true := by simp [Value.formed, Try.underlying78, h2]
  unfold keyOf slV slKey
  rw [Try.underlying78]
  simp only [h1, h4, Bool.and_self, if_true, hm]
  simp [Program.keyLits, Try.underlying78, Try.underlying3, h2, h3, Value.cells, List.range_succ, ha, hf, ho]
theorem slKey_inj {a f o a' f' o' : Int} (ha : (Lit.int .i64 a).wf = true) (hf : (Lit.int .i64 f).wf = true) (ho : (Lit.int .i64 o).wf = true) (ha' : (Lit.int .i64 a').wf = true) (hf' : (Lit.int .i64 f').wf = true) (ho' : (Lit.int .i64 o').wf = true)
    (h : slKey a f o = slKey a' f' o') : a = a' := by
  have h1 := slKey_is ha hf ho
  have h2 := slKey_is ha' hf' ho'
  rw [h] at h1
  have h3 := (deep_law_laid slLaid (m := 2) (by omega) slRow (by kernel_rfl) slWide).inj h1 h2
  simp [slV] at h3
  exact h3.1
end Go.Proofs.Ytehmhkbiofndaaa
