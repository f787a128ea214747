/-
  No cell of these rows narrows 'for every input' (looked for: loops, veiled, ifaces, maps, wideKeys, modest, calm, conditions, laid).
  DERIVED. THE GIVEN ROWS OF THIS SEAT. 11 by the template 'for every input the law returns true; each argument reads behind the call as it read before'; 0 by the template 'total and deterministic' (their statements: YtnlepkeojnnjiaaTotals.lean).
  GIVEN WITH THE SEED: the statements are not yours to turn. If you find one false, say at which input.
  Laid BY PROGRAM, IN A SANDBOX (cutbox-rows.mjs): the forced cells as the released guide's own fill.sh prints them over the translation 5d7bb05199dcfe74… (all of the seat's roots in one cut). By AI agents, Wed Nov 11 2026. No macro, syntax, notation, axiom, sorry.
-/
import Derived.Test.YtnlepkeojnnjiaaChecked
import GoSem.Claim
import GoSem.ClaimJoined
import GoSem.ClaimMapViews
import Derived.JoinedTies
import Derived.KernelRfl
namespace Go.Proofs.Ytnlepkeojnnjiaa
/- THE CELL 'sum', in the pinned program and in every row, IS THE sha256 OF THE DUMP (.gsa) THAT YtnlepkeojnnjiaaProg.lean LOADS. Nothing in Lean hashes anything: it is a label: what it is worth is what the hold of that sum in a sandbox is worth. -/
noncomputable def Try.pinned : Pinned := { name := "ytnlepkeojnnjiaa", sum := "5d7bb05199dcfe74398a83e3870ce1708d51a402cf0b29b9e41e198922e22e24", checked := Try.checked }
namespace Rows
def none {H : Type} : Left H := { results := [], args := [] }

/-- 'laws.FnExactIsBucket': WHATEVER THE INPUT: true; the input reads as it did. -/
def fnExactIsBucketSpec : ChangeSpec := { name := "fnExactIsBucket", fn := fun _ => fun
  | [d] => { results := [.lit (.bool true)], args := [d] }
  | _ => none }
def fnExactIsBucketRow : OpenClaim := { program := "ytnlepkeojnnjiaa", sum := "5d7bb05199dcfe74398a83e3870ce1708d51a402cf0b29b9e41e198922e22e24", func := "loop.example/g01176/laws.FnExactIsBucket", spec := "fnExactIsBucket", apart := false }
def FnExactIsBucketSaid : Prop := fnExactIsBucketRow.holds Try.pinned (OpenSpec.ofChange fnExactIsBucketSpec)

/-- ITS FALSE NEIGHBOUR: 'it returns false'. Refute it at one input. -/
def fnExactIsBucketWrong : ChangeSpec := { name := "fnExactIsBucket", fn := fun _ => fun
  | [d] => { results := [.lit (.bool false)], args := [d] }
  | _ => none }
def FnExactIsBucketWrongFalsely : Prop := fnExactIsBucketRow.holds Try.pinned (OpenSpec.ofChange fnExactIsBucketWrong)

/-- 'laws.FnExactIsTraffic': WHATEVER THE INPUT: true; the input reads as it did. -/
def fnExactIsTrafficSpec : ChangeSpec := { name := "fnExactIsTraffic", fn := fun _ => fun
  | [d] => { results := [.lit (.bool true)], args := [d] }
  | _ => none }
def fnExactIsTrafficRow : OpenClaim := { program := "ytnlepkeojnnjiaa", sum := "5d7bb05199dcfe74398a83e3870ce1708d51a402cf0b29b9e41e198922e22e24", func := "loop.example/g01176/laws.FnExactIsTraffic", spec := "fnExactIsTraffic", apart := false }
def FnExactIsTrafficSaid : Prop := fnExactIsTrafficRow.holds Try.pinned (OpenSpec.ofChange fnExactIsTrafficSpec)

/-- ITS FALSE NEIGHBOUR: 'it returns false'. Refute it at one input. -/
def fnExactIsTrafficWrong : ChangeSpec := { name := "fnExactIsTraffic", fn := fun _ => fun
  | [d] => { results := [.lit (.bool false)], args := [d] }
  | _ => none }
def FnExactIsTrafficWrongFalsely : Prop := fnExactIsTrafficRow.holds Try.pinned (OpenSpec.ofChange fnExactIsTrafficWrong)

/-- 'laws.FnExactJoinBuckets': WHATEVER THE INPUT: true; the input reads as it did. -/
def fnExactJoinBucketsSpec : ChangeSpec := { name := "fnExactJoinBuckets", fn := fun _ => fun
  | [d1, d2] => { results := [.lit (.bool true)], args := [d1, d2] }
  | _ => none }
def fnExactJoinBucketsRow : OpenClaim := { program := "ytnlepkeojnnjiaa", sum := "5d7bb05199dcfe74398a83e3870ce1708d51a402cf0b29b9e41e198922e22e24", func := "loop.example/g01176/laws.FnExactJoinBuckets", spec := "fnExactJoinBuckets", apart := false }
def FnExactJoinBucketsSaid : Prop := fnExactJoinBucketsRow.holds Try.pinned (OpenSpec.ofChange fnExactJoinBucketsSpec)

/-- ITS FALSE NEIGHBOUR: 'it returns false'. Refute it at one input. -/
def fnExactJoinBucketsWrong : ChangeSpec := { name := "fnExactJoinBuckets", fn := fun _ => fun
  | [d1, d2] => { results := [.lit (.bool false)], args := [d1, d2] }
  | _ => none }
def FnExactJoinBucketsWrongFalsely : Prop := fnExactJoinBucketsRow.holds Try.pinned (OpenSpec.ofChange fnExactJoinBucketsWrong)

/-- 'laws.FnExactLevelsOf': WHATEVER THE INPUT: true; the input reads as it did. -/
def fnExactLevelsOfSpec : ChangeSpec := { name := "fnExactLevelsOf", fn := fun _ => fun
  | [d1, d2] => { results := [.lit (.bool true)], args := [d1, d2] }
  | _ => none }
def fnExactLevelsOfRow : OpenClaim := { program := "ytnlepkeojnnjiaa", sum := "5d7bb05199dcfe74398a83e3870ce1708d51a402cf0b29b9e41e198922e22e24", func := "loop.example/g01176/laws.FnExactLevelsOf", spec := "fnExactLevelsOf", unfollowed := true, recurses := true, apart := false }
def FnExactLevelsOfSaid : Prop := fnExactLevelsOfRow.holds Try.pinned (OpenSpec.ofChange fnExactLevelsOfSpec)

/-- ITS FALSE NEIGHBOUR: 'it returns false'. Refute it at one input. -/
def fnExactLevelsOfWrong : ChangeSpec := { name := "fnExactLevelsOf", fn := fun _ => fun
  | [d1, d2] => { results := [.lit (.bool false)], args := [d1, d2] }
  | _ => none }
def FnExactLevelsOfWrongFalsely : Prop := fnExactLevelsOfRow.holds Try.pinned (OpenSpec.ofChange fnExactLevelsOfWrong)

/-- 'laws.FnExactKeepsBucket': WHATEVER THE INPUT: true; the input reads as it did. -/
def fnExactKeepsBucketSpec : ChangeSpec := { name := "fnExactKeepsBucket", fn := fun _ => fun
  | [d1, d2] => { results := [.lit (.bool true)], args := [d1, d2] }
  | _ => none }
def fnExactKeepsBucketRow : OpenClaim := { program := "ytnlepkeojnnjiaa", sum := "5d7bb05199dcfe74398a83e3870ce1708d51a402cf0b29b9e41e198922e22e24", func := "loop.example/g01176/laws.FnExactKeepsBucket", spec := "fnExactKeepsBucket", unfollowed := true, recurses := true, apart := false }
def FnExactKeepsBucketSaid : Prop := fnExactKeepsBucketRow.holds Try.pinned (OpenSpec.ofChange fnExactKeepsBucketSpec)

/-- ITS FALSE NEIGHBOUR: 'it returns false'. Refute it at one input. -/
def fnExactKeepsBucketWrong : ChangeSpec := { name := "fnExactKeepsBucket", fn := fun _ => fun
  | [d1, d2] => { results := [.lit (.bool false)], args := [d1, d2] }
  | _ => none }
def FnExactKeepsBucketWrongFalsely : Prop := fnExactKeepsBucketRow.holds Try.pinned (OpenSpec.ofChange fnExactKeepsBucketWrong)

/-- 'laws.FnExactKeepsBoth': WHATEVER THE INPUT: true; the input reads as it did. -/
def fnExactKeepsBothSpec : ChangeSpec := { name := "fnExactKeepsBoth", fn := fun _ => fun
  | [d1, d2, d3] => { results := [.lit (.bool true)], args := [d1, d2, d3] }
  | _ => none }
def fnExactKeepsBothRow : OpenClaim := { program := "ytnlepkeojnnjiaa", sum := "5d7bb05199dcfe74398a83e3870ce1708d51a402cf0b29b9e41e198922e22e24", func := "loop.example/g01176/laws.FnExactKeepsBoth", spec := "fnExactKeepsBoth", unfollowed := true, recurses := true, apart := false }
def FnExactKeepsBothSaid : Prop := fnExactKeepsBothRow.holds Try.pinned (OpenSpec.ofChange fnExactKeepsBothSpec)

/-- ITS FALSE NEIGHBOUR: 'it returns false'. Refute it at one input. -/
def fnExactKeepsBothWrong : ChangeSpec := { name := "fnExactKeepsBoth", fn := fun _ => fun
  | [d1, d2, d3] => { results := [.lit (.bool false)], args := [d1, d2, d3] }
  | _ => none }
def FnExactKeepsBothWrongFalsely : Prop := fnExactKeepsBothRow.holds Try.pinned (OpenSpec.ofChange fnExactKeepsBothWrong)

/-- 'laws.FnExactLeastRate': WHATEVER THE INPUT: true; the input reads as it did. -/
def fnExactLeastRateSpec : ChangeSpec := { name := "fnExactLeastRate", fn := fun _ => fun
  | [d1, d2] => { results := [.lit (.bool true)], args := [d1, d2] }
  | _ => none }
def fnExactLeastRateRow : OpenClaim := { program := "ytnlepkeojnnjiaa", sum := "5d7bb05199dcfe74398a83e3870ce1708d51a402cf0b29b9e41e198922e22e24", func := "loop.example/g01176/laws.FnExactLeastRate", spec := "fnExactLeastRate", unfollowed := true, recurses := true, apart := false }
def FnExactLeastRateSaid : Prop := fnExactLeastRateRow.holds Try.pinned (OpenSpec.ofChange fnExactLeastRateSpec)

/-- ITS FALSE NEIGHBOUR: 'it returns false'. Refute it at one input. -/
def fnExactLeastRateWrong : ChangeSpec := { name := "fnExactLeastRate", fn := fun _ => fun
  | [d1, d2] => { results := [.lit (.bool false)], args := [d1, d2] }
  | _ => none }
def FnExactLeastRateWrongFalsely : Prop := fnExactLeastRateRow.holds Try.pinned (OpenSpec.ofChange fnExactLeastRateWrong)

/-- 'laws.FnExactAddTraffic': WHATEVER THE INPUT: true; the input reads as it did. -/
def fnExactAddTrafficSpec : ChangeSpec := { name := "fnExactAddTraffic", fn := fun _ => fun
  | [d1, d2] => { results := [.lit (.bool true)], args := [d1, d2] }
  | _ => none }
def fnExactAddTrafficRow : OpenClaim := { program := "ytnlepkeojnnjiaa", sum := "5d7bb05199dcfe74398a83e3870ce1708d51a402cf0b29b9e41e198922e22e24", func := "loop.example/g01176/laws.FnExactAddTraffic", spec := "fnExactAddTraffic", apart := false }
def FnExactAddTrafficSaid : Prop := fnExactAddTrafficRow.holds Try.pinned (OpenSpec.ofChange fnExactAddTrafficSpec)

/-- ITS FALSE NEIGHBOUR: 'it returns false'. Refute it at one input. -/
def fnExactAddTrafficWrong : ChangeSpec := { name := "fnExactAddTraffic", fn := fun _ => fun
  | [d1, d2] => { results := [.lit (.bool false)], args := [d1, d2] }
  | _ => none }
def FnExactAddTrafficWrongFalsely : Prop := fnExactAddTrafficRow.holds Try.pinned (OpenSpec.ofChange fnExactAddTrafficWrong)

/-- 'laws.FnExactFirstBreach': WHATEVER THE INPUT: true; the input reads as it did. -/
def fnExactFirstBreachSpec : ChangeSpec := { name := "fnExactFirstBreach", fn := fun _ => fun
  | [d1, d2] => { results := [.lit (.bool true)], args := [d1, d2] }
  | _ => none }
def fnExactFirstBreachRow : OpenClaim := { program := "ytnlepkeojnnjiaa", sum := "5d7bb05199dcfe74398a83e3870ce1708d51a402cf0b29b9e41e198922e22e24", func := "loop.example/g01176/laws.FnExactFirstBreach", spec := "fnExactFirstBreach", apart := false }
def FnExactFirstBreachSaid : Prop := fnExactFirstBreachRow.holds Try.pinned (OpenSpec.ofChange fnExactFirstBreachSpec)

/-- ITS FALSE NEIGHBOUR: 'it returns false'. Refute it at one input. -/
def fnExactFirstBreachWrong : ChangeSpec := { name := "fnExactFirstBreach", fn := fun _ => fun
  | [d1, d2] => { results := [.lit (.bool false)], args := [d1, d2] }
  | _ => none }
def FnExactFirstBreachWrongFalsely : Prop := fnExactFirstBreachRow.holds Try.pinned (OpenSpec.ofChange fnExactFirstBreachWrong)

/-- 'laws.FnExactLeastDepth': WHATEVER THE INPUT: true; the input reads as it did. -/
def fnExactLeastDepthSpec : ChangeSpec := { name := "fnExactLeastDepth", fn := fun _ => fun
  | [d1, d2] => { results := [.lit (.bool true)], args := [d1, d2] }
  | _ => none }
def fnExactLeastDepthRow : OpenClaim := { program := "ytnlepkeojnnjiaa", sum := "5d7bb05199dcfe74398a83e3870ce1708d51a402cf0b29b9e41e198922e22e24", func := "loop.example/g01176/laws.FnExactLeastDepth", spec := "fnExactLeastDepth", unfollowed := true, recurses := true, apart := false }
def FnExactLeastDepthSaid : Prop := fnExactLeastDepthRow.holds Try.pinned (OpenSpec.ofChange fnExactLeastDepthSpec)

/-- ITS FALSE NEIGHBOUR: 'it returns false'. Refute it at one input. -/
def fnExactLeastDepthWrong : ChangeSpec := { name := "fnExactLeastDepth", fn := fun _ => fun
  | [d1, d2] => { results := [.lit (.bool false)], args := [d1, d2] }
  | _ => none }
def FnExactLeastDepthWrongFalsely : Prop := fnExactLeastDepthRow.holds Try.pinned (OpenSpec.ofChange fnExactLeastDepthWrong)

/-- 'laws.FnExactWindowsOf': WHATEVER THE INPUT: true; the input reads as it did. -/
def fnExactWindowsOfSpec : ChangeSpec := { name := "fnExactWindowsOf", fn := fun _ => fun
  | [d] => { results := [.lit (.bool true)], args := [d] }
  | _ => none }
def fnExactWindowsOfRow : OpenClaim := { program := "ytnlepkeojnnjiaa", sum := "5d7bb05199dcfe74398a83e3870ce1708d51a402cf0b29b9e41e198922e22e24", func := "loop.example/g01176/laws.FnExactWindowsOf", spec := "fnExactWindowsOf", unfollowed := true, recurses := true, apart := false }
def FnExactWindowsOfSaid : Prop := fnExactWindowsOfRow.holds Try.pinned (OpenSpec.ofChange fnExactWindowsOfSpec)

/-- ITS FALSE NEIGHBOUR: 'it returns false'. Refute it at one input. -/
def fnExactWindowsOfWrong : ChangeSpec := { name := "fnExactWindowsOf", fn := fun _ => fun
  | [d] => { results := [.lit (.bool false)], args := [d] }
  | _ => none }
def FnExactWindowsOfWrongFalsely : Prop := fnExactWindowsOfRow.holds Try.pinned (OpenSpec.ofChange fnExactWindowsOfWrong)

/- THE SECOND FORM. 'bulk': how many values and letters a reading holds, each counted each time it is reached (what is shared counts as often as it is met; a slice's spare places count too). A statement '..UptoSaid' is the law's where the arguments, and the package variables that the reading takes, are together of bulk at most 1048576: NARROWER than '..Said'. Prove '..Said' where nothing that the law and all that it calls make is longer than what came in: it says more and counts as full. Else prove '..UptoSaid'. A law counts once. -/
mutual
def uptoBulk {H : Type} : DataW H → Nat
  | .lit (.string bytes) => bytes.length + 1
  | .lit _ => 1
  | .nil => 1
  | .ptr d => uptoBulk d + 1
  | .slice elems spare => uptoBulkAll elems + uptoBulkAll spare + 1
  | .agg parts => uptoBulkAll parts + 1
  | .iface _ d => uptoBulk d + 1
  | .map entries => uptoBulkEntries entries + 1
  | .held _ => 1
def uptoBulkAll {H : Type} : List (DataW H) → Nat
  | [] => 0
  | d :: r => uptoBulk d + uptoBulkAll r
def uptoBulkEntries {H : Type} : List (Lit × DataW H) → Nat
  | [] => 0
  | x :: r => uptoBulkEntry x + uptoBulkEntries r
def uptoBulkEntry {H : Type} : Lit × DataW H → Nat
  | (.string bytes, d) => bytes.length + uptoBulk d + 1
  | (_, d) => uptoBulk d + 1
 end
def uptoSmall : (H : Type) → List (DataW H) → Bool := fun _ ds => decide (uptoBulkAll ds ≤ 1048576)
def OpenSpec.upto (s : _root_.Go.ChangeSpec) : _root_.Go.OpenSpec := { _root_.Go.OpenSpec.ofChange s with cond := some uptoSmall }

/-- 'laws.FnExactIsBucket', WHERE WHAT IT READS IS OF BULK AT MOST 1048576: true; the input reads as it did. -/
def fnExactIsBucketUptoRow : OpenClaim := { program := "ytnlepkeojnnjiaa", sum := "5d7bb05199dcfe74398a83e3870ce1708d51a402cf0b29b9e41e198922e22e24", func := "loop.example/g01176/laws.FnExactIsBucket", spec := "fnExactIsBucket", apart := false, narrowed := true }
def FnExactIsBucketUptoSaid : Prop := fnExactIsBucketUptoRow.holds Try.pinned (OpenSpec.upto fnExactIsBucketSpec)

/-- 'laws.FnExactIsTraffic', WHERE WHAT IT READS IS OF BULK AT MOST 1048576: true; the input reads as it did. -/
def fnExactIsTrafficUptoRow : OpenClaim := { program := "ytnlepkeojnnjiaa", sum := "5d7bb05199dcfe74398a83e3870ce1708d51a402cf0b29b9e41e198922e22e24", func := "loop.example/g01176/laws.FnExactIsTraffic", spec := "fnExactIsTraffic", apart := false, narrowed := true }
def FnExactIsTrafficUptoSaid : Prop := fnExactIsTrafficUptoRow.holds Try.pinned (OpenSpec.upto fnExactIsTrafficSpec)

/-- 'laws.FnExactJoinBuckets', WHERE WHAT IT READS IS OF BULK AT MOST 1048576: true; the input reads as it did. -/
def fnExactJoinBucketsUptoRow : OpenClaim := { program := "ytnlepkeojnnjiaa", sum := "5d7bb05199dcfe74398a83e3870ce1708d51a402cf0b29b9e41e198922e22e24", func := "loop.example/g01176/laws.FnExactJoinBuckets", spec := "fnExactJoinBuckets", apart := false, narrowed := true }
def FnExactJoinBucketsUptoSaid : Prop := fnExactJoinBucketsUptoRow.holds Try.pinned (OpenSpec.upto fnExactJoinBucketsSpec)

/-- 'laws.FnExactLevelsOf', WHERE WHAT IT READS IS OF BULK AT MOST 1048576: true; the input reads as it did. -/
def fnExactLevelsOfUptoRow : OpenClaim := { program := "ytnlepkeojnnjiaa", sum := "5d7bb05199dcfe74398a83e3870ce1708d51a402cf0b29b9e41e198922e22e24", func := "loop.example/g01176/laws.FnExactLevelsOf", spec := "fnExactLevelsOf", unfollowed := true, recurses := true, apart := false, narrowed := true }
def FnExactLevelsOfUptoSaid : Prop := fnExactLevelsOfUptoRow.holds Try.pinned (OpenSpec.upto fnExactLevelsOfSpec)

/-- 'laws.FnExactKeepsBucket', WHERE WHAT IT READS IS OF BULK AT MOST 1048576: true; the input reads as it did. -/
def fnExactKeepsBucketUptoRow : OpenClaim := { program := "ytnlepkeojnnjiaa", sum := "5d7bb05199dcfe74398a83e3870ce1708d51a402cf0b29b9e41e198922e22e24", func := "loop.example/g01176/laws.FnExactKeepsBucket", spec := "fnExactKeepsBucket", unfollowed := true, recurses := true, apart := false, narrowed := true }
def FnExactKeepsBucketUptoSaid : Prop := fnExactKeepsBucketUptoRow.holds Try.pinned (OpenSpec.upto fnExactKeepsBucketSpec)

/-- 'laws.FnExactKeepsBoth', WHERE WHAT IT READS IS OF BULK AT MOST 1048576: true; the input reads as it did. -/
def fnExactKeepsBothUptoRow : OpenClaim := { program := "ytnlepkeojnnjiaa", sum := "5d7bb05199dcfe74398a83e3870ce1708d51a402cf0b29b9e41e198922e22e24", func := "loop.example/g01176/laws.FnExactKeepsBoth", spec := "fnExactKeepsBoth", unfollowed := true, recurses := true, apart := false, narrowed := true }
def FnExactKeepsBothUptoSaid : Prop := fnExactKeepsBothUptoRow.holds Try.pinned (OpenSpec.upto fnExactKeepsBothSpec)

/-- 'laws.FnExactLeastRate', WHERE WHAT IT READS IS OF BULK AT MOST 1048576: true; the input reads as it did. -/
def fnExactLeastRateUptoRow : OpenClaim := { program := "ytnlepkeojnnjiaa", sum := "5d7bb05199dcfe74398a83e3870ce1708d51a402cf0b29b9e41e198922e22e24", func := "loop.example/g01176/laws.FnExactLeastRate", spec := "fnExactLeastRate", unfollowed := true, recurses := true, apart := false, narrowed := true }
def FnExactLeastRateUptoSaid : Prop := fnExactLeastRateUptoRow.holds Try.pinned (OpenSpec.upto fnExactLeastRateSpec)

/-- 'laws.FnExactAddTraffic', WHERE WHAT IT READS IS OF BULK AT MOST 1048576: true; the input reads as it did. -/
def fnExactAddTrafficUptoRow : OpenClaim := { program := "ytnlepkeojnnjiaa", sum := "5d7bb05199dcfe74398a83e3870ce1708d51a402cf0b29b9e41e198922e22e24", func := "loop.example/g01176/laws.FnExactAddTraffic", spec := "fnExactAddTraffic", apart := false, narrowed := true }
def FnExactAddTrafficUptoSaid : Prop := fnExactAddTrafficUptoRow.holds Try.pinned (OpenSpec.upto fnExactAddTrafficSpec)

/-- 'laws.FnExactFirstBreach', WHERE WHAT IT READS IS OF BULK AT MOST 1048576: true; the input reads as it did. -/
def fnExactFirstBreachUptoRow : OpenClaim := { program := "ytnlepkeojnnjiaa", sum := "5d7bb05199dcfe74398a83e3870ce1708d51a402cf0b29b9e41e198922e22e24", func := "loop.example/g01176/laws.FnExactFirstBreach", spec := "fnExactFirstBreach", apart := false, narrowed := true }
def FnExactFirstBreachUptoSaid : Prop := fnExactFirstBreachUptoRow.holds Try.pinned (OpenSpec.upto fnExactFirstBreachSpec)

/-- 'laws.FnExactLeastDepth', WHERE WHAT IT READS IS OF BULK AT MOST 1048576: true; the input reads as it did. -/
def fnExactLeastDepthUptoRow : OpenClaim := { program := "ytnlepkeojnnjiaa", sum := "5d7bb05199dcfe74398a83e3870ce1708d51a402cf0b29b9e41e198922e22e24", func := "loop.example/g01176/laws.FnExactLeastDepth", spec := "fnExactLeastDepth", unfollowed := true, recurses := true, apart := false, narrowed := true }
def FnExactLeastDepthUptoSaid : Prop := fnExactLeastDepthUptoRow.holds Try.pinned (OpenSpec.upto fnExactLeastDepthSpec)

/-- 'laws.FnExactWindowsOf', WHERE WHAT IT READS IS OF BULK AT MOST 1048576: true; the input reads as it did. -/
def fnExactWindowsOfUptoRow : OpenClaim := { program := "ytnlepkeojnnjiaa", sum := "5d7bb05199dcfe74398a83e3870ce1708d51a402cf0b29b9e41e198922e22e24", func := "loop.example/g01176/laws.FnExactWindowsOf", spec := "fnExactWindowsOf", unfollowed := true, recurses := true, apart := false, narrowed := true }
def FnExactWindowsOfUptoSaid : Prop := fnExactWindowsOfUptoRow.holds Try.pinned (OpenSpec.upto fnExactWindowsOfSpec)

end Rows
end Go.Proofs.Ytnlepkeojnnjiaa
