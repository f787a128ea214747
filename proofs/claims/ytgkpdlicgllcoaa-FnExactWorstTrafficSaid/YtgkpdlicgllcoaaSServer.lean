/-
  ServerS as values: what they read as, what owns them, and the contracts of the laws' helpers on them.
-/
import Derived.Test.YtgkpdlicgllcoaaMathBo
import Derived.Test.YtgkpdlicgllcoaaWordsK
import Derived.Test.YtgkpdlicgllcoaaBk
import Derived.Deep.RegionHeld3
import Derived.Deep.DeepCutAuto
import Derived.RegionTactic
import Derived.BigRegion
namespace Go.Proofs.Ytgkpdlicgllcoaa
open Go.RowKit
set_option maxRecDepth 100000

set_option maxHeartbeats 1000000 in
theorem toServer_any (x : Sv) (w : World) : Calls Try.prog 28 #[SvV x] w (RetV w (SvV x)) := by
  obtain ⟨r, l⟩ := x
  simp only [SvV]
  go_enter Try.func28, Try.ntmps28
  go_wp2_with fail
  refine bodyPost_ret (v := .agg #[.int .i64 r, .int .i64 l]) (by simp [results, Try.results28, go_sem]) rfl ⟨rfl, ?_⟩
  repeat (first | exact Below.refl _ _ | refine Below.alloc ?_ (by simp <;> omega) _ | refine Below.setCell ?_ (by simp <;> omega) _)
end Go.Proofs.Ytgkpdlicgllcoaa
