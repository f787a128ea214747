/-
  SlotRingS as values: what they read as, what owns them, and the contracts of the laws' helpers on them.
-/
import Derived.Test.YtnlcdgehgapblaaMathSlot
import Derived.Test.YtnlcdgehgapblaaWordsK
import Derived.Test.YtnlcdgehgapblaaBk
import Derived.Deep.RegionHeld3
import Derived.Deep.DeepCutAuto
import Derived.RegionTactic
import Derived.BigRegion
namespace Go.Proofs.Ytnlcdgehgapblaa
open Go.RowKit
set_option maxRecDepth 100000

set_option maxHeartbeats 1000000 in
theorem toSlotRing_any (x : Sr) (w : World) : Calls Try.prog 11 #[SrV x] w (RetV w (SrV x)) := by
  obtain ⟨n, h⟩ := x
  simp only [SrV]
  go_enter Try.func11, Try.ntmps11
  go_wp2_with fail
  refine bodyPost_ret (v := .agg #[.int .i64 n, .bool h]) (by simp [results, Try.results11, go_sem]) rfl ⟨rfl, ?_⟩
  repeat (first | exact Below.refl _ _ | refine Below.alloc ?_ (by simp <;> omega) _ | refine Below.setCell ?_ (by simp <;> omega) _)
end Go.Proofs.Ytnlcdgehgapblaa
