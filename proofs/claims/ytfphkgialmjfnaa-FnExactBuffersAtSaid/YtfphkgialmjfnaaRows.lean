/-
  No cell of these rows narrows 'for every input' (looked for: loops, veiled, ifaces, maps, wideKeys, modest, calm, conditions, laid).
  DERIVED. THE GIVEN ROWS OF THIS SEAT. 6 by the template 'for every input the law returns true; each argument reads behind the call as it read before'; 0 by the template 'total and deterministic' (their statements: YtfphkgialmjfnaaTotals.lean).
  GIVEN WITH THE SEED: the statements are not yours to turn. If you find one false, say at which input.
  Laid BY PROGRAM, IN A SANDBOX (cutbox-rows.mjs): the forced cells as the released guide's own fill.sh prints them over the translation 4e2c67079870ac4c… (all of the seat's roots in one cut). By AI agents, Wed Nov 11 2026. No macro, syntax, notation, axiom, sorry.
-/
import Derived.Test.YtfphkgialmjfnaaChecked
import GoSem.Claim
import GoSem.ClaimJoined
import GoSem.ClaimMapViews
import Derived.JoinedTies
import Derived.KernelRfl
namespace Go.Proofs.Ytfphkgialmjfnaa
/- THE CELL 'sum', in the pinned program and in every row, IS THE sha256 OF THE DUMP (.gsa) THAT YtfphkgialmjfnaaProg.lean LOADS. Nothing in Lean hashes anything: it is a label: what it is worth is what the hold of that sum in a sandbox is worth. -/
noncomputable def Try.pinned : Pinned := { name := "ytfphkgialmjfnaa", sum := "4e2c67079870ac4c58ac6850df08df672d4c4e8049cc14fcecc03ade1df9df9d", checked := Try.checked }
namespace Rows
def none {H : Type} : Left H := { results := [], args := [] }

/-- 'laws.FnExactDelaysOfCells': WHATEVER THE INPUT: true; the input reads as it did. -/
def fnExactDelaysOfCellsSpec : ChangeSpec := { name := "fnExactDelaysOfCells", fn := fun _ => fun
  | [d1, d2] => { results := [.lit (.bool true)], args := [d1, d2] }
  | _ => none }
def fnExactDelaysOfCellsRow : OpenClaim := { program := "ytfphkgialmjfnaa", sum := "4e2c67079870ac4c58ac6850df08df672d4c4e8049cc14fcecc03ade1df9df9d", func := "loop.example/g01176/laws.FnExactDelaysOfCells", spec := "fnExactDelaysOfCells", apart := false }
def FnExactDelaysOfCellsSaid : Prop := fnExactDelaysOfCellsRow.holds Try.pinned (OpenSpec.ofChange fnExactDelaysOfCellsSpec)

/-- ITS FALSE NEIGHBOUR: 'it returns false'. Refute it at one input. -/
def fnExactDelaysOfCellsWrong : ChangeSpec := { name := "fnExactDelaysOfCells", fn := fun _ => fun
  | [d1, d2] => { results := [.lit (.bool false)], args := [d1, d2] }
  | _ => none }
def FnExactDelaysOfCellsWrongFalsely : Prop := fnExactDelaysOfCellsRow.holds Try.pinned (OpenSpec.ofChange fnExactDelaysOfCellsWrong)

/-- 'laws.FnExactTurnInserted': WHATEVER THE INPUT: true; the input reads as it did. -/
def fnExactTurnInsertedSpec : ChangeSpec := { name := "fnExactTurnInserted", fn := fun _ => fun
  | [d1, d2, d3] => { results := [.lit (.bool true)], args := [d1, d2, d3] }
  | _ => none }
def fnExactTurnInsertedRow : OpenClaim := { program := "ytfphkgialmjfnaa", sum := "4e2c67079870ac4c58ac6850df08df672d4c4e8049cc14fcecc03ade1df9df9d", func := "loop.example/g01176/laws.FnExactTurnInserted", spec := "fnExactTurnInserted", apart := false }
def FnExactTurnInsertedSaid : Prop := fnExactTurnInsertedRow.holds Try.pinned (OpenSpec.ofChange fnExactTurnInsertedSpec)

/-- ITS FALSE NEIGHBOUR: 'it returns false'. Refute it at one input. -/
def fnExactTurnInsertedWrong : ChangeSpec := { name := "fnExactTurnInserted", fn := fun _ => fun
  | [d1, d2, d3] => { results := [.lit (.bool false)], args := [d1, d2, d3] }
  | _ => none }
def FnExactTurnInsertedWrongFalsely : Prop := fnExactTurnInsertedRow.holds Try.pinned (OpenSpec.ofChange fnExactTurnInsertedWrong)

/-- 'laws.FnExactBuffersAt': WHATEVER THE INPUT: true; the input reads as it did. -/
def fnExactBuffersAtSpec : ChangeSpec := { name := "fnExactBuffersAt", fn := fun _ => fun
  | [d1, d2, d3] => { results := [.lit (.bool true)], args := [d1, d2, d3] }
  | _ => none }
def fnExactBuffersAtRow : OpenClaim := { program := "ytfphkgialmjfnaa", sum := "4e2c67079870ac4c58ac6850df08df672d4c4e8049cc14fcecc03ade1df9df9d", func := "loop.example/g01176/laws.FnExactBuffersAt", spec := "fnExactBuffersAt", apart := false }
def FnExactBuffersAtSaid : Prop := fnExactBuffersAtRow.holds Try.pinned (OpenSpec.ofChange fnExactBuffersAtSpec)

/-- ITS FALSE NEIGHBOUR: 'it returns false'. Refute it at one input. -/
def fnExactBuffersAtWrong : ChangeSpec := { name := "fnExactBuffersAt", fn := fun _ => fun
  | [d1, d2, d3] => { results := [.lit (.bool false)], args := [d1, d2, d3] }
  | _ => none }
def FnExactBuffersAtWrongFalsely : Prop := fnExactBuffersAtRow.holds Try.pinned (OpenSpec.ofChange fnExactBuffersAtWrong)

/-- 'laws.FnExactLinksAt': WHATEVER THE INPUT: true; the input reads as it did. -/
def fnExactLinksAtSpec : ChangeSpec := { name := "fnExactLinksAt", fn := fun _ => fun
  | [d1, d2, d3] => { results := [.lit (.bool true)], args := [d1, d2, d3] }
  | _ => none }
def fnExactLinksAtRow : OpenClaim := { program := "ytfphkgialmjfnaa", sum := "4e2c67079870ac4c58ac6850df08df672d4c4e8049cc14fcecc03ade1df9df9d", func := "loop.example/g01176/laws.FnExactLinksAt", spec := "fnExactLinksAt", apart := false }
def FnExactLinksAtSaid : Prop := fnExactLinksAtRow.holds Try.pinned (OpenSpec.ofChange fnExactLinksAtSpec)

/-- ITS FALSE NEIGHBOUR: 'it returns false'. Refute it at one input. -/
def fnExactLinksAtWrong : ChangeSpec := { name := "fnExactLinksAt", fn := fun _ => fun
  | [d1, d2, d3] => { results := [.lit (.bool false)], args := [d1, d2, d3] }
  | _ => none }
def FnExactLinksAtWrongFalsely : Prop := fnExactLinksAtRow.holds Try.pinned (OpenSpec.ofChange fnExactLinksAtWrong)

/-- 'laws.FnExactIdleTicks': WHATEVER THE INPUT: true; the input reads as it did. -/
def fnExactIdleTicksSpec : ChangeSpec := { name := "fnExactIdleTicks", fn := fun _ => fun
  | [d1, d2, d3, d4] => { results := [.lit (.bool true)], args := [d1, d2, d3, d4] }
  | _ => none }
def fnExactIdleTicksRow : OpenClaim := { program := "ytfphkgialmjfnaa", sum := "4e2c67079870ac4c58ac6850df08df672d4c4e8049cc14fcecc03ade1df9df9d", func := "loop.example/g01176/laws.FnExactIdleTicks", spec := "fnExactIdleTicks", apart := false }
def FnExactIdleTicksSaid : Prop := fnExactIdleTicksRow.holds Try.pinned (OpenSpec.ofChange fnExactIdleTicksSpec)

/-- ITS FALSE NEIGHBOUR: 'it returns false'. Refute it at one input. -/
def fnExactIdleTicksWrong : ChangeSpec := { name := "fnExactIdleTicks", fn := fun _ => fun
  | [d1, d2, d3, d4] => { results := [.lit (.bool false)], args := [d1, d2, d3, d4] }
  | _ => none }
def FnExactIdleTicksWrongFalsely : Prop := fnExactIdleTicksRow.holds Try.pinned (OpenSpec.ofChange fnExactIdleTicksWrong)

/-- 'laws.FnExactCellsUnderway': WHATEVER THE INPUT: true; the input reads as it did. -/
def fnExactCellsUnderwaySpec : ChangeSpec := { name := "fnExactCellsUnderway", fn := fun _ => fun
  | [d1, d2, d3] => { results := [.lit (.bool true)], args := [d1, d2, d3] }
  | _ => none }
def fnExactCellsUnderwayRow : OpenClaim := { program := "ytfphkgialmjfnaa", sum := "4e2c67079870ac4c58ac6850df08df672d4c4e8049cc14fcecc03ade1df9df9d", func := "loop.example/g01176/laws.FnExactCellsUnderway", spec := "fnExactCellsUnderway", apart := false }
def FnExactCellsUnderwaySaid : Prop := fnExactCellsUnderwayRow.holds Try.pinned (OpenSpec.ofChange fnExactCellsUnderwaySpec)

/-- ITS FALSE NEIGHBOUR: 'it returns false'. Refute it at one input. -/
def fnExactCellsUnderwayWrong : ChangeSpec := { name := "fnExactCellsUnderway", fn := fun _ => fun
  | [d1, d2, d3] => { results := [.lit (.bool false)], args := [d1, d2, d3] }
  | _ => none }
def FnExactCellsUnderwayWrongFalsely : Prop := fnExactCellsUnderwayRow.holds Try.pinned (OpenSpec.ofChange fnExactCellsUnderwayWrong)

/- THE SECOND FORM. 'bulk': how many values and letters a reading holds, each counted each time it is reached (what is shared counts as often as it is met; a slice's spare places count too). A statement '..UptoSaid' is the law's where the arguments, and the package variables that the reading takes, are together of bulk at most 1048576: NARROWER than '..Said'. Prove '..Said' where nothing that the law and all that it calls make is longer than what came in: it says more and counts as full. Else prove '..UptoSaid'. A law counts once. -/
mutual
def uptoBulk {H : Type} : DataW H → Nat
  | .lit (.string bytes) => bytes.length + 1
  | .lit _ => 1
  | .nil => 1
  | .ptr d => uptoBulk d + 1
  | .slice elems spare => uptoBulkAll elems + uptoBulkAll spare + 1
  | .agg parts => uptoBulkAll parts + 1
  | .iface _ d => uptoBulk d + 1
  | .map entries => uptoBulkEntries entries + 1
  | .held _ => 1
def uptoBulkAll {H : Type} : List (DataW H) → Nat
  | [] => 0
  | d :: r => uptoBulk d + uptoBulkAll r
def uptoBulkEntries {H : Type} : List (Lit × DataW H) → Nat
  | [] => 0
  | x :: r => uptoBulkEntry x + uptoBulkEntries r
def uptoBulkEntry {H : Type} : Lit × DataW H → Nat
  | (.string bytes, d) => bytes.length + uptoBulk d + 1
  | (_, d) => uptoBulk d + 1
 end
def uptoSmall : (H : Type) → List (DataW H) → Bool := fun _ ds => decide (uptoBulkAll ds ≤ 1048576)
def OpenSpec.upto (s : _root_.Go.ChangeSpec) : _root_.Go.OpenSpec := { _root_.Go.OpenSpec.ofChange s with cond := some uptoSmall }

/-- 'laws.FnExactDelaysOfCells', WHERE WHAT IT READS IS OF BULK AT MOST 1048576: true; the input reads as it did. -/
def fnExactDelaysOfCellsUptoRow : OpenClaim := { program := "ytfphkgialmjfnaa", sum := "4e2c67079870ac4c58ac6850df08df672d4c4e8049cc14fcecc03ade1df9df9d", func := "loop.example/g01176/laws.FnExactDelaysOfCells", spec := "fnExactDelaysOfCells", apart := false, narrowed := true }
def FnExactDelaysOfCellsUptoSaid : Prop := fnExactDelaysOfCellsUptoRow.holds Try.pinned (OpenSpec.upto fnExactDelaysOfCellsSpec)

/-- 'laws.FnExactTurnInserted', WHERE WHAT IT READS IS OF BULK AT MOST 1048576: true; the input reads as it did. -/
def fnExactTurnInsertedUptoRow : OpenClaim := { program := "ytfphkgialmjfnaa", sum := "4e2c67079870ac4c58ac6850df08df672d4c4e8049cc14fcecc03ade1df9df9d", func := "loop.example/g01176/laws.FnExactTurnInserted", spec := "fnExactTurnInserted", apart := false, narrowed := true }
def FnExactTurnInsertedUptoSaid : Prop := fnExactTurnInsertedUptoRow.holds Try.pinned (OpenSpec.upto fnExactTurnInsertedSpec)

/-- 'laws.FnExactBuffersAt', WHERE WHAT IT READS IS OF BULK AT MOST 1048576: true; the input reads as it did. -/
def fnExactBuffersAtUptoRow : OpenClaim := { program := "ytfphkgialmjfnaa", sum := "4e2c67079870ac4c58ac6850df08df672d4c4e8049cc14fcecc03ade1df9df9d", func := "loop.example/g01176/laws.FnExactBuffersAt", spec := "fnExactBuffersAt", apart := false, narrowed := true }
def FnExactBuffersAtUptoSaid : Prop := fnExactBuffersAtUptoRow.holds Try.pinned (OpenSpec.upto fnExactBuffersAtSpec)

/-- 'laws.FnExactLinksAt', WHERE WHAT IT READS IS OF BULK AT MOST 1048576: true; the input reads as it did. -/
def fnExactLinksAtUptoRow : OpenClaim := { program := "ytfphkgialmjfnaa", sum := "4e2c67079870ac4c58ac6850df08df672d4c4e8049cc14fcecc03ade1df9df9d", func := "loop.example/g01176/laws.FnExactLinksAt", spec := "fnExactLinksAt", apart := false, narrowed := true }
def FnExactLinksAtUptoSaid : Prop := fnExactLinksAtUptoRow.holds Try.pinned (OpenSpec.upto fnExactLinksAtSpec)

/-- 'laws.FnExactIdleTicks', WHERE WHAT IT READS IS OF BULK AT MOST 1048576: true; the input reads as it did. -/
def fnExactIdleTicksUptoRow : OpenClaim := { program := "ytfphkgialmjfnaa", sum := "4e2c67079870ac4c58ac6850df08df672d4c4e8049cc14fcecc03ade1df9df9d", func := "loop.example/g01176/laws.FnExactIdleTicks", spec := "fnExactIdleTicks", apart := false, narrowed := true }
def FnExactIdleTicksUptoSaid : Prop := fnExactIdleTicksUptoRow.holds Try.pinned (OpenSpec.upto fnExactIdleTicksSpec)

/-- 'laws.FnExactCellsUnderway', WHERE WHAT IT READS IS OF BULK AT MOST 1048576: true; the input reads as it did. -/
def fnExactCellsUnderwayUptoRow : OpenClaim := { program := "ytfphkgialmjfnaa", sum := "4e2c67079870ac4c58ac6850df08df672d4c4e8049cc14fcecc03ade1df9df9d", func := "loop.example/g01176/laws.FnExactCellsUnderway", spec := "fnExactCellsUnderway", apart := false, narrowed := true }
def FnExactCellsUnderwayUptoSaid : Prop := fnExactCellsUnderwayUptoRow.holds Try.pinned (OpenSpec.upto fnExactCellsUnderwaySpec)

end Rows
end Go.Proofs.Ytfphkgialmjfnaa
