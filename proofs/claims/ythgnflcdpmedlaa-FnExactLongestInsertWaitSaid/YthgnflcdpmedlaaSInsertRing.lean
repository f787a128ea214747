/-
  InsertRingS as values: what they read as, what owns them, and the contracts of the laws' helpers on them.
-/
import Derived.Test.YthgnflcdpmedlaaIr
import Derived.Test.YthgnflcdpmedlaaWordsK
import Derived.Test.YthgnflcdpmedlaaBk
import Derived.Deep.RegionHeld3
import Derived.Deep.DeepCutAuto
import Derived.RegionTactic
import Derived.BigRegion
namespace Go.Proofs.Ythgnflcdpmedlaa
open Go.RowKit
set_option maxRecDepth 100000

set_option maxHeartbeats 1000000 in
theorem toInsertRing_any (x : Ir) (w : World) : Calls Try.prog 12 #[IrV x] w (RetV w (IrV x)) := by
  obtain ⟨n, r, h⟩ := x
  simp only [IrV]
  go_enter Try.func12, Try.ntmps12
  go_wp2_with fail
  refine bodyPost_ret (v := .agg #[.int .i64 n, .int .i64 r, .bool h]) (by simp [results, Try.results12, go_sem]) rfl ⟨rfl, ?_⟩
  repeat (first | exact Below.refl _ _ | refine Below.alloc ?_ (by simp <;> omega) _ | refine Below.setCell ?_ (by simp <;> omega) _)
end Go.Proofs.Ythgnflcdpmedlaa
