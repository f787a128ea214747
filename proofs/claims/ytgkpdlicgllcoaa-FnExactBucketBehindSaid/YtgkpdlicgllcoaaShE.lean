/-
  Chapter 8: the contracts of JoinBuckets, both sides, and of the laws' equality of buckets.
-/
import Derived.Test.YtgkpdlicgllcoaaShA
import Derived.Test.YtgkpdlicgllcoaaSBucket
namespace Go.Proofs.Ytgkpdlicgllcoaa
open Go.RowKit
set_option maxRecDepth 100000
set_option linter.unusedVariables false

theorem eqBucket_any (x y : Bu) (w : World) : Calls Try.prog 40 #[BuV x, BuV y] w (RetV w (.bool (decide (x.r = y.r) && decide (x.d = y.d)))) := by
  obtain ⟨xr, xd⟩ := x
  obtain ⟨yr, yd⟩ := y
  simp only [BuV]
  have hs : (w.alloc (.cells #[.int .i64 xr, .int .i64 xd] 44)).heap.size = w.heap.size + 1 := by simp
  have hW : Below w.heap.size w ((w.alloc (.cells #[.int .i64 xr, .int .i64 xd] 44)).alloc (.cells #[.int .i64 yr, .int .i64 yd] 44)) := ((Below.refl _ _).alloc (Nat.le_refl _) _).alloc (by rw [hs]; omega) _
  clear hs
  by_cases h1 : xr = yr
  · subst h1
    by_cases h2 : xd = yd
    · subst h2
      rw [show (decide (xr = xr) && decide (xd = xd)) = true from by simp]
      have e1 : (xr != xr) = false := by simp
      have e2 : (xd != xd) = false := by simp
      go_enter Try.func40, Try.ntmps40
      go_wp2_with fail
      go_ret
      exact ⟨rfl, hW⟩
    · rw [show (decide (xr = xr) && decide (xd = yd)) = false from by simp [h2]]
      have e1 : (xr != xr) = false := by simp
      have e2 : (xd != yd) = true := by simp [h2]
      go_enter Try.func40, Try.ntmps40
      go_wp2_with fail
      go_ret
      exact ⟨rfl, hW⟩
  · rw [show (decide (xr = yr) && decide (xd = yd)) = false from by simp [h1]]
    have e1 : (xr != yr) = true := by simp [h1]
    go_enter Try.func40, Try.ntmps40
    go_wp2_with fail
    go_ret
    exact ⟨rfl, hW⟩
theorem eqBucket_same (x : Bu) (w : World) : Calls Try.prog 40 #[BuV x, BuV x] w (RetV w (.bool true)) := by
  have h := eqBucket_any x x w
  rw [show (decide (x.r = x.r) && decide (x.d = x.d)) = true from by simp] at h
  exact h
end Go.Proofs.Ytgkpdlicgllcoaa
