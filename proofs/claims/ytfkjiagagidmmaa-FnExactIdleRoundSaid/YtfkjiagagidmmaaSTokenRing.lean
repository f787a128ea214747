/-
  TokenRingS as values: what they read as, what owns them, and the contracts of the laws' helpers on them.
-/
import Derived.Test.YtfkjiagagidmmaaMathTok
import Derived.Test.YtfkjiagagidmmaaWordsK
import Derived.Test.YtfkjiagagidmmaaBk
namespace Go.Proofs.Ytfkjiagagidmmaa
open Go.RowKit
set_option maxRecDepth 100000

set_option maxHeartbeats 1000000 in
theorem toTokenRing_any (x : Tr) (w : World) : Calls Try.prog 11 #[TrV x] w (RetV w (TrV x)) := by
  obtain ⟨k, h, q⟩ := x
  simp only [TrV]
  go_enter Try.func11, Try.ntmps11
  go_wp2_with fail
  refine bodyPost_ret (v := .agg #[.int .i64 k, .int .i64 h, .int .i64 q]) (by simp [results, Try.results11, go_sem]) rfl ⟨rfl, ?_⟩
  repeat (first | exact Below.refl _ _ | refine Below.alloc ?_ (by simp <;> omega) _ | refine Below.setCell ?_ (by simp <;> omega) _)
end Go.Proofs.Ytfkjiagagidmmaa
