/-
  No cell of these rows narrows 'for every input' (looked for: loops, veiled, ifaces, maps, wideKeys, modest, calm, conditions, laid).
  DERIVED. THE GIVEN ROWS OF THIS SEAT. 3 by the template 'for every input the law returns true; each argument reads behind the call as it read before'; 0 by the template 'total and deterministic' (their statements: YtlanpfcjcafapaaTotals.lean).
  GIVEN WITH THE SEED: the statements are not yours to turn. If you find one false, say at which input.
  Laid BY PROGRAM, IN A SANDBOX (cutbox-rows.mjs): the forced cells as the released guide's own fill.sh prints them over the translation 24de77f94b9e194f… (all of the seat's roots in one cut). By AI agents, Wed Nov 11 2026. No macro, syntax, notation, axiom, sorry.
-/
import Derived.Test.YtlanpfcjcafapaaChecked
import GoSem.Claim
import GoSem.ClaimJoined
import GoSem.ClaimMapViews
import Derived.JoinedTies
import Derived.KernelRfl
namespace Go.Proofs.Ytlanpfcjcafapaa
/- THE CELL 'sum', in the pinned program and in every row, IS THE sha256 OF THE DUMP (.gsa) THAT YtlanpfcjcafapaaProg.lean LOADS. Nothing in Lean hashes anything: it is a label: what it is worth is what the hold of that sum in a sandbox is worth. -/
noncomputable def Try.pinned : Pinned := { name := "ytlanpfcjcafapaa", sum := "24de77f94b9e194ff43853253d56a072985de3d597a016d08818d794172ce41f", checked := Try.checked }
namespace Rows
def none {H : Type} : Left H := { results := [], args := [] }

/-- 'laws.FnBoundsHold': WHATEVER THE INPUT: true; the input reads as it did. -/
def fnBoundsHoldSpec : ChangeSpec := { name := "fnBoundsHold", fn := fun _ => fun
  | [d1, d2] => { results := [.lit (.bool true)], args := [d1, d2] }
  | _ => none }
def fnBoundsHoldRow : OpenClaim := { program := "ytlanpfcjcafapaa", sum := "24de77f94b9e194ff43853253d56a072985de3d597a016d08818d794172ce41f", func := "loop.example/g01176/laws.FnBoundsHold", spec := "fnBoundsHold", unfollowed := true, recurses := true, apart := false }
def FnBoundsHoldSaid : Prop := fnBoundsHoldRow.holds Try.pinned (OpenSpec.ofChange fnBoundsHoldSpec)

/-- ITS FALSE NEIGHBOUR: 'it returns false'. Refute it at one input. -/
def fnBoundsHoldWrong : ChangeSpec := { name := "fnBoundsHold", fn := fun _ => fun
  | [d1, d2] => { results := [.lit (.bool false)], args := [d1, d2] }
  | _ => none }
def FnBoundsHoldWrongFalsely : Prop := fnBoundsHoldRow.holds Try.pinned (OpenSpec.ofChange fnBoundsHoldWrong)

/-- 'laws.FnBucketsKept': WHATEVER THE INPUT: true; the input reads as it did. -/
def fnBucketsKeptSpec : ChangeSpec := { name := "fnBucketsKept", fn := fun _ => fun
  | [d1, d2] => { results := [.lit (.bool true)], args := [d1, d2] }
  | _ => none }
def fnBucketsKeptRow : OpenClaim := { program := "ytlanpfcjcafapaa", sum := "24de77f94b9e194ff43853253d56a072985de3d597a016d08818d794172ce41f", func := "loop.example/g01176/laws.FnBucketsKept", spec := "fnBucketsKept", unfollowed := true, recurses := true, apart := false }
def FnBucketsKeptSaid : Prop := fnBucketsKeptRow.holds Try.pinned (OpenSpec.ofChange fnBucketsKeptSpec)

/-- ITS FALSE NEIGHBOUR: 'it returns false'. Refute it at one input. -/
def fnBucketsKeptWrong : ChangeSpec := { name := "fnBucketsKept", fn := fun _ => fun
  | [d1, d2] => { results := [.lit (.bool false)], args := [d1, d2] }
  | _ => none }
def FnBucketsKeptWrongFalsely : Prop := fnBucketsKeptRow.holds Try.pinned (OpenSpec.ofChange fnBucketsKeptWrong)

/-- 'laws.FnShapesKeep': WHATEVER THE INPUT: true; the input reads as it did. -/
def fnShapesKeepSpec : ChangeSpec := { name := "fnShapesKeep", fn := fun _ => fun
  | [d1, d2] => { results := [.lit (.bool true)], args := [d1, d2] }
  | _ => none }
def fnShapesKeepRow : OpenClaim := { program := "ytlanpfcjcafapaa", sum := "24de77f94b9e194ff43853253d56a072985de3d597a016d08818d794172ce41f", func := "loop.example/g01176/laws.FnShapesKeep", spec := "fnShapesKeep", unfollowed := true, recurses := true, apart := false }
def FnShapesKeepSaid : Prop := fnShapesKeepRow.holds Try.pinned (OpenSpec.ofChange fnShapesKeepSpec)

/-- ITS FALSE NEIGHBOUR: 'it returns false'. Refute it at one input. -/
def fnShapesKeepWrong : ChangeSpec := { name := "fnShapesKeep", fn := fun _ => fun
  | [d1, d2] => { results := [.lit (.bool false)], args := [d1, d2] }
  | _ => none }
def FnShapesKeepWrongFalsely : Prop := fnShapesKeepRow.holds Try.pinned (OpenSpec.ofChange fnShapesKeepWrong)

/- THE SECOND FORM. 'bulk': how many values and letters a reading holds, each counted each time it is reached (what is shared counts as often as it is met; a slice's spare places count too). A statement '..UptoSaid' is the law's where the arguments, and the package variables that the reading takes, are together of bulk at most 1048576: NARROWER than '..Said'. Prove '..Said' where nothing that the law and all that it calls make is longer than what came in: it says more and counts as full. Else prove '..UptoSaid'. A law counts once. -/
mutual
def uptoBulk {H : Type} : DataW H → Nat
  | .lit (.string bytes) => bytes.length + 1
  | .lit _ => 1
  | .nil => 1
  | .ptr d => uptoBulk d + 1
  | .slice elems spare => uptoBulkAll elems + uptoBulkAll spare + 1
  | .agg parts => uptoBulkAll parts + 1
  | .iface _ d => uptoBulk d + 1
  | .map entries => uptoBulkEntries entries + 1
  | .held _ => 1
def uptoBulkAll {H : Type} : List (DataW H) → Nat
  | [] => 0
  | d :: r => uptoBulk d + uptoBulkAll r
def uptoBulkEntries {H : Type} : List (Lit × DataW H) → Nat
  | [] => 0
  | x :: r => uptoBulkEntry x + uptoBulkEntries r
def uptoBulkEntry {H : Type} : Lit × DataW H → Nat
  | (.string bytes, d) => bytes.length + uptoBulk d + 1
  | (_, d) => uptoBulk d + 1
 end
def uptoSmall : (H : Type) → List (DataW H) → Bool := fun _ ds => decide (uptoBulkAll ds ≤ 1048576)
def OpenSpec.upto (s : _root_.Go.ChangeSpec) : _root_.Go.OpenSpec := { _root_.Go.OpenSpec.ofChange s with cond := some uptoSmall }

/-- 'laws.FnBoundsHold', WHERE WHAT IT READS IS OF BULK AT MOST 1048576: true; the input reads as it did. -/
def fnBoundsHoldUptoRow : OpenClaim := { program := "ytlanpfcjcafapaa", sum := "24de77f94b9e194ff43853253d56a072985de3d597a016d08818d794172ce41f", func := "loop.example/g01176/laws.FnBoundsHold", spec := "fnBoundsHold", unfollowed := true, recurses := true, apart := false, narrowed := true }
def FnBoundsHoldUptoSaid : Prop := fnBoundsHoldUptoRow.holds Try.pinned (OpenSpec.upto fnBoundsHoldSpec)

/-- 'laws.FnBucketsKept', WHERE WHAT IT READS IS OF BULK AT MOST 1048576: true; the input reads as it did. -/
def fnBucketsKeptUptoRow : OpenClaim := { program := "ytlanpfcjcafapaa", sum := "24de77f94b9e194ff43853253d56a072985de3d597a016d08818d794172ce41f", func := "loop.example/g01176/laws.FnBucketsKept", spec := "fnBucketsKept", unfollowed := true, recurses := true, apart := false, narrowed := true }
def FnBucketsKeptUptoSaid : Prop := fnBucketsKeptUptoRow.holds Try.pinned (OpenSpec.upto fnBucketsKeptSpec)

/-- 'laws.FnShapesKeep', WHERE WHAT IT READS IS OF BULK AT MOST 1048576: true; the input reads as it did. -/
def fnShapesKeepUptoRow : OpenClaim := { program := "ytlanpfcjcafapaa", sum := "24de77f94b9e194ff43853253d56a072985de3d597a016d08818d794172ce41f", func := "loop.example/g01176/laws.FnShapesKeep", spec := "fnShapesKeep", unfollowed := true, recurses := true, apart := false, narrowed := true }
def FnShapesKeepUptoSaid : Prop := fnShapesKeepUptoRow.holds Try.pinned (OpenSpec.upto fnShapesKeepSpec)

end Rows
end Go.Proofs.Ytlanpfcjcafapaa
