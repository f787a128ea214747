/-
  ServerS as values: what they read as, what owns them, and the contracts of the laws' helpers on them.
-/
import Derived.Test.YtdjpanmhlnnkoaaMathBo
import Derived.Test.YtdjpanmhlnnkoaaWordsK
import Derived.Test.YtdjpanmhlnnkoaaBk
import Derived.Deep.RegionHeld3
import Derived.Deep.DeepCutAuto
import Derived.RegionTactic
import Derived.BigRegion
namespace Go.Proofs.Ytdjpanmhlnnkoaa
open Go.RowKit
set_option maxRecDepth 100000

set_option maxHeartbeats 1000000 in
theorem toServer_any (x : Sv) (w : World) : Calls Try.prog 7 #[SvV x] w (RetV w (SvV x)) := by
  obtain ⟨r, l⟩ := x
  simp only [SvV]
  go_enter Try.func7, Try.ntmps7
  go_wp2_with fail
  refine bodyPost_ret (v := .agg #[.int .i64 r, .int .i64 l]) (by simp [results, Try.results7, go_sem]) rfl ⟨rfl, ?_⟩
  repeat (first | exact Below.refl _ _ | refine Below.alloc ?_ (by simp <;> omega) _ | refine Below.setCell ?_ (by simp <;> omega) _)
end Go.Proofs.Ytdjpanmhlnnkoaa
