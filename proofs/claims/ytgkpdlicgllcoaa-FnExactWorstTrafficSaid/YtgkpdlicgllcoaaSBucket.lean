/-
  BucketS as values: what they read as, what owns them, and the contracts of the laws' helpers on them.
-/
import Derived.Test.YtgkpdlicgllcoaaMathSh
import Derived.Test.YtgkpdlicgllcoaaWordsK
import Derived.Test.YtgkpdlicgllcoaaBk
import Derived.Deep.RegionHeld3
import Derived.Deep.DeepCutAuto
import Derived.RegionTactic
import Derived.BigRegion
namespace Go.Proofs.Ytgkpdlicgllcoaa
open Go.RowKit
set_option maxRecDepth 100000

set_option maxHeartbeats 1000000 in
theorem toBucket_any (x : Bu) (w : World) : Calls Try.prog 31 #[BuV x] w (RetV w (BuV x)) := by
  obtain ⟨r, d⟩ := x
  simp only [BuV]
  go_enter Try.func31, Try.ntmps31
  go_wp2_with fail
  refine bodyPost_ret (v := .agg #[.int .i64 r, .int .i64 d]) (by simp [results, Try.results31, go_sem]) rfl ⟨rfl, ?_⟩
  repeat (first | exact Below.refl _ _ | refine Below.alloc ?_ (by simp <;> omega) _ | refine Below.setCell ?_ (by simp <;> omega) _)
end Go.Proofs.Ytgkpdlicgllcoaa
