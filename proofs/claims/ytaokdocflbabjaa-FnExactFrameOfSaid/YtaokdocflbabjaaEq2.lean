/-
  Two arrays of two ints are compared.
-/
import Derived.Test.YtaokdocflbabjaaBase
import Derived.ChangeKeysEq
namespace Go.Proofs.Ytaokdocflbabjaa
open Go.RowKit
theorem eq2d (n : Nat) (a b c d : Int) (w : World) : (Op.equalIn (n + 2) 62 (.agg #[.int .i64 a, .int .i64 b]) (.agg #[.int .i64 c, .int .i64 d])).run Try.prog w = .ok (a == c && b == d) w := by
  obtain ⟨i0, hi, hz0, hz1, hz2⟩ := info_parts int_info
  have hc : Try.prog.cellsOf 3 = 1 := by kernel_rfl
  have h := run_equalIn_array (P := Try.prog) (w := w) (n + 1) #[.int .i64 a, .int .i64 b] #[.int .i64 c, .int .i64 d] Try.underlying62 hi
  have hr : List.range 2 = [0, 1] := rfl
  rw [hr, hc] at h
  rw [h]
  have p0 : ∀ x y : Int, (part 3 #[.int .i64 x, .int .i64 y] 0).run Try.prog w = .ok (.int .i64 x) w := fun x y => by kernel_rfl
  have p1 : ∀ x y : Int, (part 3 #[.int .i64 x, .int .i64 y] 1).run Try.prog w = .ok (.int .i64 y) w := fun x y => by kernel_rfl
  have e : ∀ x y : Int, (Op.equalIn (n + 1) 3 (.int .i64 x) (.int .i64 y)).run Try.prog w = .ok (x == y) w := fun x y => by simp [Op.equalIn, run_underlying Try.underlying3]
  simp only [Op.eqItems, Nat.zero_mul, Nat.one_mul, Sem.run_bind, p0, e, Result.andThen_ok]
  cases a == c
  · simp
  · simp only [Bool.not_true, Bool.false_eq_true, if_false, Sem.run_bind, p1, e, Result.andThen_ok]
    cases b == d <;> simp
theorem eq2 (a b c d : Int) (w : World) : (Op.equalIn 10000 62 (.agg #[.int .i64 a, .int .i64 b]) (.agg #[.int .i64 c, .int .i64 d])).run Try.prog w = .ok (a == c && b == d) w := eq2d 9998 a b c d w
end Go.Proofs.Ytaokdocflbabjaa
