/-
  No cell of these rows narrows 'for every input' (looked for: loops, veiled, ifaces, maps, wideKeys, modest, calm, conditions, laid).
  DERIVED. THE GIVEN ROWS OF THIS SEAT. 7 by the template 'for every input the law returns true; each argument reads behind the call as it read before'; 0 by the template 'total and deterministic' (their statements: YtgmknndmmpoliaaTotals.lean).
  GIVEN WITH THE SEED: the statements are not yours to turn. If you find one false, say at which input.
  Laid BY PROGRAM, IN A SANDBOX (cutbox-rows.mjs): the forced cells as the released guide's own fill.sh prints them over the translation 31275340b36984dc… (all of the seat's roots in one cut). By AI agents, Wed Nov 11 2026. No macro, syntax, notation, axiom, sorry.
-/
import Derived.Test.YtgmknndmmpoliaaChecked
import GoSem.Claim
import GoSem.ClaimJoined
import GoSem.ClaimMapViews
import Derived.JoinedTies
import Derived.KernelRfl
namespace Go.Proofs.Ytgmknndmmpoliaa
/- THE CELL 'sum', in the pinned program and in every row, IS THE sha256 OF THE DUMP (.gsa) THAT YtgmknndmmpoliaaProg.lean LOADS. Nothing in Lean hashes anything: it is a label: what it is worth is what the hold of that sum in a sandbox is worth. -/
noncomputable def Try.pinned : Pinned := { name := "ytgmknndmmpoliaa", sum := "31275340b36984dccf8fafbbfae4f254de28cf3db663cb7ae90fa014d35a7381", checked := Try.checked }
namespace Rows
def none {H : Type} : Left H := { results := [], args := [] }

/-- 'laws.FnExactSurvivorsOf': WHATEVER THE INPUT: true; the input reads as it did. -/
def fnExactSurvivorsOfSpec : ChangeSpec := { name := "fnExactSurvivorsOf", fn := fun _ => fun
  | [d] => { results := [.lit (.bool true)], args := [d] }
  | _ => none }
def fnExactSurvivorsOfRow : OpenClaim := { program := "ytgmknndmmpoliaa", sum := "31275340b36984dccf8fafbbfae4f254de28cf3db663cb7ae90fa014d35a7381", func := "loop.example/g01176/laws.FnExactSurvivorsOf", spec := "fnExactSurvivorsOf", unfollowed := true, recurses := true, apart := false }
def FnExactSurvivorsOfSaid : Prop := fnExactSurvivorsOfRow.holds Try.pinned (OpenSpec.ofChange fnExactSurvivorsOfSpec)

/-- ITS FALSE NEIGHBOUR: 'it returns false'. Refute it at one input. -/
def fnExactSurvivorsOfWrong : ChangeSpec := { name := "fnExactSurvivorsOf", fn := fun _ => fun
  | [d] => { results := [.lit (.bool false)], args := [d] }
  | _ => none }
def FnExactSurvivorsOfWrongFalsely : Prop := fnExactSurvivorsOfRow.holds Try.pinned (OpenSpec.ofChange fnExactSurvivorsOfWrong)

/-- 'laws.FnExactRoundMessages': WHATEVER THE INPUT: true; the input reads as it did. -/
def fnExactRoundMessagesSpec : ChangeSpec := { name := "fnExactRoundMessages", fn := fun _ => fun
  | [d] => { results := [.lit (.bool true)], args := [d] }
  | _ => none }
def fnExactRoundMessagesRow : OpenClaim := { program := "ytgmknndmmpoliaa", sum := "31275340b36984dccf8fafbbfae4f254de28cf3db663cb7ae90fa014d35a7381", func := "loop.example/g01176/laws.FnExactRoundMessages", spec := "fnExactRoundMessages", unfollowed := true, recurses := true, apart := false }
def FnExactRoundMessagesSaid : Prop := fnExactRoundMessagesRow.holds Try.pinned (OpenSpec.ofChange fnExactRoundMessagesSpec)

/-- ITS FALSE NEIGHBOUR: 'it returns false'. Refute it at one input. -/
def fnExactRoundMessagesWrong : ChangeSpec := { name := "fnExactRoundMessages", fn := fun _ => fun
  | [d] => { results := [.lit (.bool false)], args := [d] }
  | _ => none }
def FnExactRoundMessagesWrongFalsely : Prop := fnExactRoundMessagesRow.holds Try.pinned (OpenSpec.ofChange fnExactRoundMessagesWrong)

/-- 'laws.FnExactBothWays': WHATEVER THE INPUT: true; the input reads as it did. -/
def fnExactBothWaysSpec : ChangeSpec := { name := "fnExactBothWays", fn := fun _ => fun
  | [d] => { results := [.lit (.bool true)], args := [d] }
  | _ => none }
def fnExactBothWaysRow : OpenClaim := { program := "ytgmknndmmpoliaa", sum := "31275340b36984dccf8fafbbfae4f254de28cf3db663cb7ae90fa014d35a7381", func := "loop.example/g01176/laws.FnExactBothWays", spec := "fnExactBothWays", unfollowed := true, recurses := true, apart := false }
def FnExactBothWaysSaid : Prop := fnExactBothWaysRow.holds Try.pinned (OpenSpec.ofChange fnExactBothWaysSpec)

/-- ITS FALSE NEIGHBOUR: 'it returns false'. Refute it at one input. -/
def fnExactBothWaysWrong : ChangeSpec := { name := "fnExactBothWays", fn := fun _ => fun
  | [d] => { results := [.lit (.bool false)], args := [d] }
  | _ => none }
def FnExactBothWaysWrongFalsely : Prop := fnExactBothWaysRow.holds Try.pinned (OpenSpec.ofChange fnExactBothWaysWrong)

/-- 'laws.FnExactWorstNames': WHATEVER THE INPUT: true; the input reads as it did. -/
def fnExactWorstNamesSpec : ChangeSpec := { name := "fnExactWorstNames", fn := fun _ => fun
  | [d] => { results := [.lit (.bool true)], args := [d] }
  | _ => none }
def fnExactWorstNamesRow : OpenClaim := { program := "ytgmknndmmpoliaa", sum := "31275340b36984dccf8fafbbfae4f254de28cf3db663cb7ae90fa014d35a7381", func := "loop.example/g01176/laws.FnExactWorstNames", spec := "fnExactWorstNames", unfollowed := true, recurses := true, apart := false }
def FnExactWorstNamesSaid : Prop := fnExactWorstNamesRow.holds Try.pinned (OpenSpec.ofChange fnExactWorstNamesSpec)

/-- ITS FALSE NEIGHBOUR: 'it returns false'. Refute it at one input. -/
def fnExactWorstNamesWrong : ChangeSpec := { name := "fnExactWorstNames", fn := fun _ => fun
  | [d] => { results := [.lit (.bool false)], args := [d] }
  | _ => none }
def FnExactWorstNamesWrongFalsely : Prop := fnExactWorstNamesRow.holds Try.pinned (OpenSpec.ofChange fnExactWorstNamesWrong)

/-- 'laws.FnExactBestNames': WHATEVER THE INPUT: true; the input reads as it did. -/
def fnExactBestNamesSpec : ChangeSpec := { name := "fnExactBestNames", fn := fun _ => fun
  | [d] => { results := [.lit (.bool true)], args := [d] }
  | _ => none }
def fnExactBestNamesRow : OpenClaim := { program := "ytgmknndmmpoliaa", sum := "31275340b36984dccf8fafbbfae4f254de28cf3db663cb7ae90fa014d35a7381", func := "loop.example/g01176/laws.FnExactBestNames", spec := "fnExactBestNames", unfollowed := true, recurses := true, apart := false }
def FnExactBestNamesSaid : Prop := fnExactBestNamesRow.holds Try.pinned (OpenSpec.ofChange fnExactBestNamesSpec)

/-- ITS FALSE NEIGHBOUR: 'it returns false'. Refute it at one input. -/
def fnExactBestNamesWrong : ChangeSpec := { name := "fnExactBestNames", fn := fun _ => fun
  | [d] => { results := [.lit (.bool false)], args := [d] }
  | _ => none }
def FnExactBestNamesWrongFalsely : Prop := fnExactBestNamesRow.holds Try.pinned (OpenSpec.ofChange fnExactBestNamesWrong)

/-- 'laws.FnExactLongestRepair': WHATEVER THE INPUT: true; the input reads as it did. -/
def fnExactLongestRepairSpec : ChangeSpec := { name := "fnExactLongestRepair", fn := fun _ => fun
  | [d1, d2] => { results := [.lit (.bool true)], args := [d1, d2] }
  | _ => none }
def fnExactLongestRepairRow : OpenClaim := { program := "ytgmknndmmpoliaa", sum := "31275340b36984dccf8fafbbfae4f254de28cf3db663cb7ae90fa014d35a7381", func := "loop.example/g01176/laws.FnExactLongestRepair", spec := "fnExactLongestRepair", unfollowed := true, recurses := true, apart := false }
def FnExactLongestRepairSaid : Prop := fnExactLongestRepairRow.holds Try.pinned (OpenSpec.ofChange fnExactLongestRepairSpec)

/-- ITS FALSE NEIGHBOUR: 'it returns false'. Refute it at one input. -/
def fnExactLongestRepairWrong : ChangeSpec := { name := "fnExactLongestRepair", fn := fun _ => fun
  | [d1, d2] => { results := [.lit (.bool false)], args := [d1, d2] }
  | _ => none }
def FnExactLongestRepairWrongFalsely : Prop := fnExactLongestRepairRow.holds Try.pinned (OpenSpec.ofChange fnExactLongestRepairWrong)

/-- 'laws.FnExactCountOneToken': WHATEVER THE INPUT: true; the input reads as it did. -/
def fnExactCountOneTokenSpec : ChangeSpec := { name := "fnExactCountOneToken", fn := fun _ => fun
  | [d1, d2] => { results := [.lit (.bool true)], args := [d1, d2] }
  | _ => none }
def fnExactCountOneTokenRow : OpenClaim := { program := "ytgmknndmmpoliaa", sum := "31275340b36984dccf8fafbbfae4f254de28cf3db663cb7ae90fa014d35a7381", func := "loop.example/g01176/laws.FnExactCountOneToken", spec := "fnExactCountOneToken", apart := false }
def FnExactCountOneTokenSaid : Prop := fnExactCountOneTokenRow.holds Try.pinned (OpenSpec.ofChange fnExactCountOneTokenSpec)

/-- ITS FALSE NEIGHBOUR: 'it returns false'. Refute it at one input. -/
def fnExactCountOneTokenWrong : ChangeSpec := { name := "fnExactCountOneToken", fn := fun _ => fun
  | [d1, d2] => { results := [.lit (.bool false)], args := [d1, d2] }
  | _ => none }
def FnExactCountOneTokenWrongFalsely : Prop := fnExactCountOneTokenRow.holds Try.pinned (OpenSpec.ofChange fnExactCountOneTokenWrong)

/- THE SECOND FORM. 'bulk': how many values and letters a reading holds, each counted each time it is reached (what is shared counts as often as it is met; a slice's spare places count too). A statement '..UptoSaid' is the law's where the arguments, and the package variables that the reading takes, are together of bulk at most 1048576: NARROWER than '..Said'. Prove '..Said' where nothing that the law and all that it calls make is longer than what came in: it says more and counts as full. Else prove '..UptoSaid'. A law counts once. -/
mutual
def uptoBulk {H : Type} : DataW H → Nat
  | .lit (.string bytes) => bytes.length + 1
  | .lit _ => 1
  | .nil => 1
  | .ptr d => uptoBulk d + 1
  | .slice elems spare => uptoBulkAll elems + uptoBulkAll spare + 1
  | .agg parts => uptoBulkAll parts + 1
  | .iface _ d => uptoBulk d + 1
  | .map entries => uptoBulkEntries entries + 1
  | .held _ => 1
def uptoBulkAll {H : Type} : List (DataW H) → Nat
  | [] => 0
  | d :: r => uptoBulk d + uptoBulkAll r
def uptoBulkEntries {H : Type} : List (Lit × DataW H) → Nat
  | [] => 0
  | x :: r => uptoBulkEntry x + uptoBulkEntries r
def uptoBulkEntry {H : Type} : Lit × DataW H → Nat
  | (.string bytes, d) => bytes.length + uptoBulk d + 1
  | (_, d) => uptoBulk d + 1
 end
def uptoSmall : (H : Type) → List (DataW H) → Bool := fun _ ds => decide (uptoBulkAll ds ≤ 1048576)
def OpenSpec.upto (s : _root_.Go.ChangeSpec) : _root_.Go.OpenSpec := { _root_.Go.OpenSpec.ofChange s with cond := some uptoSmall }

/-- 'laws.FnExactSurvivorsOf', WHERE WHAT IT READS IS OF BULK AT MOST 1048576: true; the input reads as it did. -/
def fnExactSurvivorsOfUptoRow : OpenClaim := { program := "ytgmknndmmpoliaa", sum := "31275340b36984dccf8fafbbfae4f254de28cf3db663cb7ae90fa014d35a7381", func := "loop.example/g01176/laws.FnExactSurvivorsOf", spec := "fnExactSurvivorsOf", unfollowed := true, recurses := true, apart := false, narrowed := true }
def FnExactSurvivorsOfUptoSaid : Prop := fnExactSurvivorsOfUptoRow.holds Try.pinned (OpenSpec.upto fnExactSurvivorsOfSpec)

/-- 'laws.FnExactRoundMessages', WHERE WHAT IT READS IS OF BULK AT MOST 1048576: true; the input reads as it did. -/
def fnExactRoundMessagesUptoRow : OpenClaim := { program := "ytgmknndmmpoliaa", sum := "31275340b36984dccf8fafbbfae4f254de28cf3db663cb7ae90fa014d35a7381", func := "loop.example/g01176/laws.FnExactRoundMessages", spec := "fnExactRoundMessages", unfollowed := true, recurses := true, apart := false, narrowed := true }
def FnExactRoundMessagesUptoSaid : Prop := fnExactRoundMessagesUptoRow.holds Try.pinned (OpenSpec.upto fnExactRoundMessagesSpec)

/-- 'laws.FnExactBothWays', WHERE WHAT IT READS IS OF BULK AT MOST 1048576: true; the input reads as it did. -/
def fnExactBothWaysUptoRow : OpenClaim := { program := "ytgmknndmmpoliaa", sum := "31275340b36984dccf8fafbbfae4f254de28cf3db663cb7ae90fa014d35a7381", func := "loop.example/g01176/laws.FnExactBothWays", spec := "fnExactBothWays", unfollowed := true, recurses := true, apart := false, narrowed := true }
def FnExactBothWaysUptoSaid : Prop := fnExactBothWaysUptoRow.holds Try.pinned (OpenSpec.upto fnExactBothWaysSpec)

/-- 'laws.FnExactWorstNames', WHERE WHAT IT READS IS OF BULK AT MOST 1048576: true; the input reads as it did. -/
def fnExactWorstNamesUptoRow : OpenClaim := { program := "ytgmknndmmpoliaa", sum := "31275340b36984dccf8fafbbfae4f254de28cf3db663cb7ae90fa014d35a7381", func := "loop.example/g01176/laws.FnExactWorstNames", spec := "fnExactWorstNames", unfollowed := true, recurses := true, apart := false, narrowed := true }
def FnExactWorstNamesUptoSaid : Prop := fnExactWorstNamesUptoRow.holds Try.pinned (OpenSpec.upto fnExactWorstNamesSpec)

/-- 'laws.FnExactBestNames', WHERE WHAT IT READS IS OF BULK AT MOST 1048576: true; the input reads as it did. -/
def fnExactBestNamesUptoRow : OpenClaim := { program := "ytgmknndmmpoliaa", sum := "31275340b36984dccf8fafbbfae4f254de28cf3db663cb7ae90fa014d35a7381", func := "loop.example/g01176/laws.FnExactBestNames", spec := "fnExactBestNames", unfollowed := true, recurses := true, apart := false, narrowed := true }
def FnExactBestNamesUptoSaid : Prop := fnExactBestNamesUptoRow.holds Try.pinned (OpenSpec.upto fnExactBestNamesSpec)

/-- 'laws.FnExactLongestRepair', WHERE WHAT IT READS IS OF BULK AT MOST 1048576: true; the input reads as it did. -/
def fnExactLongestRepairUptoRow : OpenClaim := { program := "ytgmknndmmpoliaa", sum := "31275340b36984dccf8fafbbfae4f254de28cf3db663cb7ae90fa014d35a7381", func := "loop.example/g01176/laws.FnExactLongestRepair", spec := "fnExactLongestRepair", unfollowed := true, recurses := true, apart := false, narrowed := true }
def FnExactLongestRepairUptoSaid : Prop := fnExactLongestRepairUptoRow.holds Try.pinned (OpenSpec.upto fnExactLongestRepairSpec)

/-- 'laws.FnExactCountOneToken', WHERE WHAT IT READS IS OF BULK AT MOST 1048576: true; the input reads as it did. -/
def fnExactCountOneTokenUptoRow : OpenClaim := { program := "ytgmknndmmpoliaa", sum := "31275340b36984dccf8fafbbfae4f254de28cf3db663cb7ae90fa014d35a7381", func := "loop.example/g01176/laws.FnExactCountOneToken", spec := "fnExactCountOneToken", apart := false, narrowed := true }
def FnExactCountOneTokenUptoSaid : Prop := fnExactCountOneTokenUptoRow.holds Try.pinned (OpenSpec.upto fnExactCountOneTokenSpec)

end Rows
end Go.Proofs.Ytgmknndmmpoliaa
