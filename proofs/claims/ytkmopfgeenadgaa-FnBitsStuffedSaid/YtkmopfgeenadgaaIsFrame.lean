/-
  The contracts of the laws' helpers on frames, and of IsFrame.
-/
import Derived.Test.YtkmopfgeenadgaaFrm
import Derived.Test.YtkmopfgeenadgaaValid
namespace Go.Proofs.Ytkmopfgeenadgaa
open Go.RowKit
set_option maxRecDepth 100000

def szLeft (n : Int) (l : List Int) : Int := if n < l.length then -1 else n - l.length
theorem szLeft_neg {n : Int} {l : List Int} (h : n < l.length) : szLeft n l = -1 := if_pos h
theorem szLeft_pos {n : Int} {l : List Int} (h : ¬ n < l.length) : szLeft n l = n - l.length := if_neg h
def wi (n lo hi : Int) : Bool := decide (lo ≤ n ∧ n ≤ hi)
theorem isWithin_wi (n lo hi : Int) (w : World) : Calls Try.prog 39 #[.int .i64 n, .int .i64 lo, .int .i64 hi] w fun e w' => e = .returned (.bool (wi n lo hi)) ∧ w = w' := isWithin_any n lo hi w
theorem l1In_wi (n lo hi : Int) (w : World) : Calls Try.prog 40 #[.int .i64 n, .int .i64 lo, .int .i64 hi] w fun e w' => e = .returned (.bool (wi n lo hi)) ∧ w = w' := l1In_any n lo hi w
/-- What IsFrame says. -/
def isFr (x : Fr) : Bool := wi x.f 0 11 && (wi x.t 0 11 && (wi x.p 0 7 && (decide (x.d.length ≤ 16) && okAll 0 255 x.d)))
theorem areB_16 {l : List Int} (h : l.length ≤ 16) : areB l = okAll 0 255 l := by
  unfold areB
  rw [decide_eq_true (by omega), Bool.true_and]

end Go.Proofs.Ytkmopfgeenadgaa
