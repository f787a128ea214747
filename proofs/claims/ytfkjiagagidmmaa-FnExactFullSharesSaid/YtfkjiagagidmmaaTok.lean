/-
  Token rings: the contracts of the small functions on them, the program's and the model's.
-/
import Derived.Test.YtfkjiagagidmmaaSTokenRing
namespace Go.Proofs.Ytfkjiagagidmmaa
open Go.RowKit
set_option maxRecDepth 100000

theorem implIsTokenRing_any (x : Tr) (w : World) : Calls Try.prog 12 #[TrV x] w (RetV w (.bool (isTr x))) := by
  obtain ⟨k, h, q⟩ := x
  simp only [TrV]
  have hW : Below w.heap.size w (w.alloc (.cells #[.int .i64 k, .int .i64 h, .int .i64 q] 25)) := (Below.refl _ _).alloc (Nat.le_refl _) _
  cases hk : wi k 2 12 <;> cases hh : wi h 1 10
  all_goals
    go_enter Try.func12, Try.ntmps12
    go_wp2_with (go_at_call 34; refine (isWithin_wi _ _ _ _).mono ?_; rintro e w' ⟨rfl, rfl⟩)
    go_ret
    exact ⟨ret_bool (by simp [isTr, hk, hh]), hW⟩
theorem tkGood_any (x : Tr) (w : World) : Calls Try.prog 33 #[TrV x] w (RetV w (.bool (isTr x))) := by
  obtain ⟨k, h, q⟩ := x
  simp only [TrV]
  have hW : Below w.heap.size w (w.alloc (.cells #[.int .i64 k, .int .i64 h, .int .i64 q] 25)) := (Below.refl _ _).alloc (Nat.le_refl _) _
  cases hk : wi k 2 12 <;> cases hh : wi h 1 10
  all_goals
    go_enter Try.func33, Try.ntmps33
    go_wp2_with (go_at_call 41; refine (l1In_wi _ _ _ _).mono ?_; rintro e w' ⟨rfl, rfl⟩)
    go_ret
    exact ⟨ret_bool (by simp [isTr, hk, hh]), hW⟩
theorem specIsTokenRing_any (x : Tr) (w : World) : Calls Try.prog 10 #[TrV x] w (RetV w (.bool (isTr x))) := by
  have hg := fun w => tkGood_any x w
  obtain ⟨k, h, q⟩ := x
  simp only [TrV] at hg ⊢
  have hW : Below w.heap.size w (w.alloc (.cells #[.int .i64 k, .int .i64 h, .int .i64 q] 25)) := (Below.refl _ _).alloc (Nat.le_refl _) _
  go_enter Try.func10, Try.ntmps10
  go_wp2_with fail
  refine (hg _).mono ?_; rintro e w1 ⟨rfl, hb⟩
  go_wp2_with fail
  go_ret
  exact ⟨rfl, hW.trans (hb.mono hW.size)⟩
end Go.Proofs.Ytfkjiagagidmmaa
