/-
  Chapter 9: the contracts of the small functions of both sides: servers, servers for buckets, bounds, servers in a row, buckets behind.
-/
import Derived.Test.YtdjpanmhlnnkoaaShA
import Derived.Test.YtdjpanmhlnnkoaaMathBo
import Derived.Test.YtdjpanmhlnnkoaaSBucket
import Derived.Test.YtdjpanmhlnnkoaaSServer
namespace Go.Proofs.Ytdjpanmhlnnkoaa
open Go.RowKit
set_option maxRecDepth 100000
set_option linter.unusedVariables false

theorem implServer_any (x : Sv) (w : World) : Calls Try.prog 19 #[SvV x] w (RetV w (.bool (svOk x))) := by
  obtain ⟨r, l⟩ := x
  simp only [SvV]
  have hW : Below w.heap.size w (w.alloc (.cells #[.int .i64 r, .int .i64 l] 27)) := (Below.refl _ _).alloc (Nat.le_refl _) _
  have H1 : Hid (∀ w, Calls Try.prog 31 #[.int .i64 r] w fun e w' => e = .returned (.bool (wi r 1 100)) ∧ w = w') := fun w => implRate_any r w
  have H2 : Hid (∀ w, Calls Try.prog 32 #[.int .i64 l, .int .i64 0, .int .i64 20] w fun e w' => e = .returned (.bool (wi l 0 20)) ∧ w = w') := fun w => isWithin_wi l 0 20 w
  show Calls _ _ _ _ (RetV w (.bool (wi r 1 100 && wi l 0 20)))
  cases h1 : wi r 1 100
  · rw [h1] at H1
    clear h1
    go_enter Try.func19, Try.ntmps19
    go_wp2_with fail
    refine (H1.out _).mono ?_; rintro e w' ⟨rfl, rfl⟩
    go_wp2_with fail
    go_ret
    exact ⟨rfl, hW⟩
  · rw [h1] at H1
    clear h1
    go_enter Try.func19, Try.ntmps19
    go_wp2_with fail
    refine (H1.out _).mono ?_; rintro e w' ⟨rfl, rfl⟩
    go_wp2_with fail
    refine (H2.out _).mono ?_; rintro e w' ⟨rfl, rfl⟩
    go_wp2_with fail
    go_ret
    exact ⟨rfl, hW⟩
theorem boServer_any (x : Sv) (w : World) : Calls Try.prog 28 #[SvV x] w (RetV w (.bool (svOk x))) := by
  obtain ⟨r, l⟩ := x
  simp only [SvV]
  have hW : Below w.heap.size w (w.alloc (.cells #[.int .i64 r, .int .i64 l] 27)) := (Below.refl _ _).alloc (Nat.le_refl _) _
  have H1 : Hid (∀ w, Calls Try.prog 39 #[.int .i64 r] w fun e w' => e = .returned (.bool (wi r 1 100)) ∧ w = w') := fun w => specRate_any r w
  have H2 : Hid (∀ w, Calls Try.prog 40 #[.int .i64 l, .int .i64 0, .int .i64 20] w fun e w' => e = .returned (.bool (wi l 0 20)) ∧ w = w') := fun w => l1In_wi l 0 20 w
  show Calls _ _ _ _ (RetV w (.bool (wi r 1 100 && wi l 0 20)))
  cases h1 : wi r 1 100
  · rw [h1] at H1
    clear h1
    go_enter Try.func28, Try.ntmps28
    go_wp2_with fail
    refine (H1.out _).mono ?_; rintro e w' ⟨rfl, rfl⟩
    go_wp2_with fail
    go_ret
    exact ⟨rfl, hW⟩
  · rw [h1] at H1
    clear h1
    go_enter Try.func28, Try.ntmps28
    go_wp2_with fail
    refine (H1.out _).mono ?_; rintro e w' ⟨rfl, rfl⟩
    go_wp2_with fail
    refine (H2.out _).mono ?_; rintro e w' ⟨rfl, rfl⟩
    go_wp2_with fail
    go_ret
    exact ⟨rfl, hW⟩
theorem implIsServer_any (x : Sv) (w : World) : Calls Try.prog 19 #[SvV x] w (RetV w (.bool (svOk x))) := implServer_any x w
end Go.Proofs.Ytdjpanmhlnnkoaa
