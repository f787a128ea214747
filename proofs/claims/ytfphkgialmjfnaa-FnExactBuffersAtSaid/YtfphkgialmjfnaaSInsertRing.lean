/-
  InsertRingS as values: what they read as, what owns them, and the contracts of the laws' helpers on them.
-/
import Derived.Test.YtfphkgialmjfnaaIr
import Derived.Test.YtfphkgialmjfnaaWordsK
import Derived.Test.YtfphkgialmjfnaaBk
import Derived.Deep.RegionHeld3
import Derived.Deep.DeepCutAuto
import Derived.RegionTactic
import Derived.BigRegion
namespace Go.Proofs.Ytfphkgialmjfnaa
open Go.RowKit
set_option maxRecDepth 100000

set_option maxHeartbeats 1000000 in
theorem toInsertRing_any (x : Ir) (w : World) : Calls Try.prog 11 #[IrV x] w (RetV w (IrV x)) := by
  obtain ⟨n, r, h⟩ := x
  simp only [IrV]
  go_enter Try.func11, Try.ntmps11
  go_wp2_with fail
  refine bodyPost_ret (v := .agg #[.int .i64 n, .int .i64 r, .bool h]) (by simp [results, Try.results11, go_sem]) rfl ⟨rfl, ?_⟩
  repeat (first | exact Below.refl _ _ | refine Below.alloc ?_ (by simp <;> omega) _ | refine Below.setCell ?_ (by simp <;> omega) _)
end Go.Proofs.Ytfphkgialmjfnaa
