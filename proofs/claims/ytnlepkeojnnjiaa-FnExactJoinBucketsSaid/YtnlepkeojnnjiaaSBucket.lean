/-
  BucketS as values: what they read as, what owns them, and the contracts of the laws' helpers on them.
-/
import Derived.Test.YtnlepkeojnnjiaaMathSh
import Derived.Test.YtnlepkeojnnjiaaWordsK
import Derived.Test.YtnlepkeojnnjiaaBk
import Derived.Deep.RegionHeld3
import Derived.Deep.DeepCutAuto
import Derived.RegionTactic
import Derived.BigRegion
namespace Go.Proofs.Ytnlepkeojnnjiaa
open Go.RowKit
set_option maxRecDepth 100000

set_option maxHeartbeats 1000000 in
theorem toBucket_any (x : Bu) (w : World) : Calls Try.prog 15 #[BuV x] w (RetV w (BuV x)) := by
  obtain ⟨r, d⟩ := x
  simp only [BuV]
  go_enter Try.func15, Try.ntmps15
  go_wp2_with fail
  refine bodyPost_ret (v := .agg #[.int .i64 r, .int .i64 d]) (by simp [results, Try.results15, go_sem]) rfl ⟨rfl, ?_⟩
  repeat (first | exact Below.refl _ _ | refine Below.alloc ?_ (by simp <;> omega) _ | refine Below.setCell ?_ (by simp <;> omega) _)
end Go.Proofs.Ytnlepkeojnnjiaa
