/-
  No cell of these rows narrows 'for every input' (looked for: loops, veiled, ifaces, maps, wideKeys, modest, calm, conditions, laid).
  DERIVED. THE GIVEN ROWS OF THIS SEAT. 10 by the template 'for every input the law returns true; each argument reads behind the call as it read before'; 0 by the template 'total and deterministic' (their statements: YtbmjjelffpoojaaTotals.lean).
  GIVEN WITH THE SEED: the statements are not yours to turn. If you find one false, say at which input.
  Laid BY PROGRAM, IN A SANDBOX (cutbox-rows.mjs): the forced cells as the released guide's own fill.sh prints them over the translation e5e098644160af96… (all of the seat's roots in one cut). By AI agents, Wed Nov 11 2026. No macro, syntax, notation, axiom, sorry.
-/
import Derived.Test.YtbmjjelffpoojaaChecked
import GoSem.Claim
import GoSem.ClaimJoined
import GoSem.ClaimMapViews
import Derived.JoinedTies
import Derived.KernelRfl
namespace Go.Proofs.Ytbmjjelffpoojaa
/- THE CELL 'sum', in the pinned program and in every row, IS THE sha256 OF THE DUMP (.gsa) THAT YtbmjjelffpoojaaProg.lean LOADS. Nothing in Lean hashes anything: it is a label: what it is worth is what the hold of that sum in a sandbox is worth. -/
noncomputable def Try.pinned : Pinned := { name := "ytbmjjelffpoojaa", sum := "e5e098644160af9698219949d0b81146dfdc74a290f594594b1432c505a8a04e", checked := Try.checked }
namespace Rows
def none {H : Type} : Left H := { results := [], args := [] }

/-- 'laws.FnExactAreNames': WHATEVER THE INPUT: true; the input reads as it did. -/
def fnExactAreNamesSpec : ChangeSpec := { name := "fnExactAreNames", fn := fun _ => fun
  | [d] => { results := [.lit (.bool true)], args := [d] }
  | _ => none }
def fnExactAreNamesRow : OpenClaim := { program := "ytbmjjelffpoojaa", sum := "e5e098644160af9698219949d0b81146dfdc74a290f594594b1432c505a8a04e", func := "loop.example/g01176/laws.FnExactAreNames", spec := "fnExactAreNames", apart := false }
def FnExactAreNamesSaid : Prop := fnExactAreNamesRow.holds Try.pinned (OpenSpec.ofChange fnExactAreNamesSpec)

/-- ITS FALSE NEIGHBOUR: 'it returns false'. Refute it at one input. -/
def fnExactAreNamesWrong : ChangeSpec := { name := "fnExactAreNames", fn := fun _ => fun
  | [d] => { results := [.lit (.bool false)], args := [d] }
  | _ => none }
def FnExactAreNamesWrongFalsely : Prop := fnExactAreNamesRow.holds Try.pinned (OpenSpec.ofChange fnExactAreNamesWrong)

/-- 'laws.FnExactWinnerOf': WHATEVER THE INPUT: true; the input reads as it did. -/
def fnExactWinnerOfSpec : ChangeSpec := { name := "fnExactWinnerOf", fn := fun _ => fun
  | [d] => { results := [.lit (.bool true)], args := [d] }
  | _ => none }
def fnExactWinnerOfRow : OpenClaim := { program := "ytbmjjelffpoojaa", sum := "e5e098644160af9698219949d0b81146dfdc74a290f594594b1432c505a8a04e", func := "loop.example/g01176/laws.FnExactWinnerOf", spec := "fnExactWinnerOf", apart := false }
def FnExactWinnerOfSaid : Prop := fnExactWinnerOfRow.holds Try.pinned (OpenSpec.ofChange fnExactWinnerOfSpec)

/-- ITS FALSE NEIGHBOUR: 'it returns false'. Refute it at one input. -/
def fnExactWinnerOfWrong : ChangeSpec := { name := "fnExactWinnerOf", fn := fun _ => fun
  | [d] => { results := [.lit (.bool false)], args := [d] }
  | _ => none }
def FnExactWinnerOfWrongFalsely : Prop := fnExactWinnerOfRow.holds Try.pinned (OpenSpec.ofChange fnExactWinnerOfWrong)

/-- 'laws.FnExactPassedOn': WHATEVER THE INPUT: true; the input reads as it did. -/
def fnExactPassedOnSpec : ChangeSpec := { name := "fnExactPassedOn", fn := fun _ => fun
  | [d] => { results := [.lit (.bool true)], args := [d] }
  | _ => none }
def fnExactPassedOnRow : OpenClaim := { program := "ytbmjjelffpoojaa", sum := "e5e098644160af9698219949d0b81146dfdc74a290f594594b1432c505a8a04e", func := "loop.example/g01176/laws.FnExactPassedOn", spec := "fnExactPassedOn", unfollowed := true, recurses := true, apart := false }
def FnExactPassedOnSaid : Prop := fnExactPassedOnRow.holds Try.pinned (OpenSpec.ofChange fnExactPassedOnSpec)

/-- ITS FALSE NEIGHBOUR: 'it returns false'. Refute it at one input. -/
def fnExactPassedOnWrong : ChangeSpec := { name := "fnExactPassedOn", fn := fun _ => fun
  | [d] => { results := [.lit (.bool false)], args := [d] }
  | _ => none }
def FnExactPassedOnWrongFalsely : Prop := fnExactPassedOnRow.holds Try.pinned (OpenSpec.ofChange fnExactPassedOnWrong)

/-- 'laws.FnExactSimpleMessages': WHATEVER THE INPUT: true; the input reads as it did. -/
def fnExactSimpleMessagesSpec : ChangeSpec := { name := "fnExactSimpleMessages", fn := fun _ => fun
  | [d] => { results := [.lit (.bool true)], args := [d] }
  | _ => none }
def fnExactSimpleMessagesRow : OpenClaim := { program := "ytbmjjelffpoojaa", sum := "e5e098644160af9698219949d0b81146dfdc74a290f594594b1432c505a8a04e", func := "loop.example/g01176/laws.FnExactSimpleMessages", spec := "fnExactSimpleMessages", unfollowed := true, recurses := true, apart := false }
def FnExactSimpleMessagesSaid : Prop := fnExactSimpleMessagesRow.holds Try.pinned (OpenSpec.ofChange fnExactSimpleMessagesSpec)

/-- ITS FALSE NEIGHBOUR: 'it returns false'. Refute it at one input. -/
def fnExactSimpleMessagesWrong : ChangeSpec := { name := "fnExactSimpleMessages", fn := fun _ => fun
  | [d] => { results := [.lit (.bool false)], args := [d] }
  | _ => none }
def FnExactSimpleMessagesWrongFalsely : Prop := fnExactSimpleMessagesRow.holds Try.pinned (OpenSpec.ofChange fnExactSimpleMessagesWrong)

/-- 'laws.FnExactSumOfMessages': WHATEVER THE INPUT: true; the input reads as it did. -/
def fnExactSumOfMessagesSpec : ChangeSpec := { name := "fnExactSumOfMessages", fn := fun _ => fun
  | [d] => { results := [.lit (.bool true)], args := [d] }
  | _ => none }
def fnExactSumOfMessagesRow : OpenClaim := { program := "ytbmjjelffpoojaa", sum := "e5e098644160af9698219949d0b81146dfdc74a290f594594b1432c505a8a04e", func := "loop.example/g01176/laws.FnExactSumOfMessages", spec := "fnExactSumOfMessages", apart := false }
def FnExactSumOfMessagesSaid : Prop := fnExactSumOfMessagesRow.holds Try.pinned (OpenSpec.ofChange fnExactSumOfMessagesSpec)

/-- ITS FALSE NEIGHBOUR: 'it returns false'. Refute it at one input. -/
def fnExactSumOfMessagesWrong : ChangeSpec := { name := "fnExactSumOfMessages", fn := fun _ => fun
  | [d] => { results := [.lit (.bool false)], args := [d] }
  | _ => none }
def FnExactSumOfMessagesWrongFalsely : Prop := fnExactSumOfMessagesRow.holds Try.pinned (OpenSpec.ofChange fnExactSumOfMessagesWrong)

/-- 'laws.FnExactAreStates': WHATEVER THE INPUT: true; the input reads as it did. -/
def fnExactAreStatesSpec : ChangeSpec := { name := "fnExactAreStates", fn := fun _ => fun
  | [d1, d2] => { results := [.lit (.bool true)], args := [d1, d2] }
  | _ => none }
def fnExactAreStatesRow : OpenClaim := { program := "ytbmjjelffpoojaa", sum := "e5e098644160af9698219949d0b81146dfdc74a290f594594b1432c505a8a04e", func := "loop.example/g01176/laws.FnExactAreStates", spec := "fnExactAreStates", apart := false }
def FnExactAreStatesSaid : Prop := fnExactAreStatesRow.holds Try.pinned (OpenSpec.ofChange fnExactAreStatesSpec)

/-- ITS FALSE NEIGHBOUR: 'it returns false'. Refute it at one input. -/
def fnExactAreStatesWrong : ChangeSpec := { name := "fnExactAreStates", fn := fun _ => fun
  | [d1, d2] => { results := [.lit (.bool false)], args := [d1, d2] }
  | _ => none }
def FnExactAreStatesWrongFalsely : Prop := fnExactAreStatesRow.holds Try.pinned (OpenSpec.ofChange fnExactAreStatesWrong)

/-- 'laws.FnExactHoldersOf': WHATEVER THE INPUT: true; the input reads as it did. -/
def fnExactHoldersOfSpec : ChangeSpec := { name := "fnExactHoldersOf", fn := fun _ => fun
  | [d1, d2] => { results := [.lit (.bool true)], args := [d1, d2] }
  | _ => none }
def fnExactHoldersOfRow : OpenClaim := { program := "ytbmjjelffpoojaa", sum := "e5e098644160af9698219949d0b81146dfdc74a290f594594b1432c505a8a04e", func := "loop.example/g01176/laws.FnExactHoldersOf", spec := "fnExactHoldersOf", apart := false }
def FnExactHoldersOfSaid : Prop := fnExactHoldersOfRow.holds Try.pinned (OpenSpec.ofChange fnExactHoldersOfSpec)

/-- ITS FALSE NEIGHBOUR: 'it returns false'. Refute it at one input. -/
def fnExactHoldersOfWrong : ChangeSpec := { name := "fnExactHoldersOf", fn := fun _ => fun
  | [d1, d2] => { results := [.lit (.bool false)], args := [d1, d2] }
  | _ => none }
def FnExactHoldersOfWrongFalsely : Prop := fnExactHoldersOfRow.holds Try.pinned (OpenSpec.ofChange fnExactHoldersOfWrong)

/-- 'laws.FnExactFireStation': WHATEVER THE INPUT: true; the input reads as it did. -/
def fnExactFireStationSpec : ChangeSpec := { name := "fnExactFireStation", fn := fun _ => fun
  | [d1, d2, d3] => { results := [.lit (.bool true)], args := [d1, d2, d3] }
  | _ => none }
def fnExactFireStationRow : OpenClaim := { program := "ytbmjjelffpoojaa", sum := "e5e098644160af9698219949d0b81146dfdc74a290f594594b1432c505a8a04e", func := "loop.example/g01176/laws.FnExactFireStation", spec := "fnExactFireStation", apart := false }
def FnExactFireStationSaid : Prop := fnExactFireStationRow.holds Try.pinned (OpenSpec.ofChange fnExactFireStationSpec)

/-- ITS FALSE NEIGHBOUR: 'it returns false'. Refute it at one input. -/
def fnExactFireStationWrong : ChangeSpec := { name := "fnExactFireStation", fn := fun _ => fun
  | [d1, d2, d3] => { results := [.lit (.bool false)], args := [d1, d2, d3] }
  | _ => none }
def FnExactFireStationWrongFalsely : Prop := fnExactFireStationRow.holds Try.pinned (OpenSpec.ofChange fnExactFireStationWrong)

/-- 'laws.FnExactRunFires': WHATEVER THE INPUT: true; the input reads as it did. -/
def fnExactRunFiresSpec : ChangeSpec := { name := "fnExactRunFires", fn := fun _ => fun
  | [d1, d2, d3] => { results := [.lit (.bool true)], args := [d1, d2, d3] }
  | _ => none }
def fnExactRunFiresRow : OpenClaim := { program := "ytbmjjelffpoojaa", sum := "e5e098644160af9698219949d0b81146dfdc74a290f594594b1432c505a8a04e", func := "loop.example/g01176/laws.FnExactRunFires", spec := "fnExactRunFires", apart := false }
def FnExactRunFiresSaid : Prop := fnExactRunFiresRow.holds Try.pinned (OpenSpec.ofChange fnExactRunFiresSpec)

/-- ITS FALSE NEIGHBOUR: 'it returns false'. Refute it at one input. -/
def fnExactRunFiresWrong : ChangeSpec := { name := "fnExactRunFires", fn := fun _ => fun
  | [d1, d2, d3] => { results := [.lit (.bool false)], args := [d1, d2, d3] }
  | _ => none }
def FnExactRunFiresWrongFalsely : Prop := fnExactRunFiresRow.holds Try.pinned (OpenSpec.ofChange fnExactRunFiresWrong)

/-- 'laws.FnExactIsOneToken': WHATEVER THE INPUT: true; the input reads as it did. -/
def fnExactIsOneTokenSpec : ChangeSpec := { name := "fnExactIsOneToken", fn := fun _ => fun
  | [d1, d2] => { results := [.lit (.bool true)], args := [d1, d2] }
  | _ => none }
def fnExactIsOneTokenRow : OpenClaim := { program := "ytbmjjelffpoojaa", sum := "e5e098644160af9698219949d0b81146dfdc74a290f594594b1432c505a8a04e", func := "loop.example/g01176/laws.FnExactIsOneToken", spec := "fnExactIsOneToken", apart := false }
def FnExactIsOneTokenSaid : Prop := fnExactIsOneTokenRow.holds Try.pinned (OpenSpec.ofChange fnExactIsOneTokenSpec)

/-- ITS FALSE NEIGHBOUR: 'it returns false'. Refute it at one input. -/
def fnExactIsOneTokenWrong : ChangeSpec := { name := "fnExactIsOneToken", fn := fun _ => fun
  | [d1, d2] => { results := [.lit (.bool false)], args := [d1, d2] }
  | _ => none }
def FnExactIsOneTokenWrongFalsely : Prop := fnExactIsOneTokenRow.holds Try.pinned (OpenSpec.ofChange fnExactIsOneTokenWrong)

/- THE SECOND FORM. 'bulk': how many values and letters a reading holds, each counted each time it is reached (what is shared counts as often as it is met; a slice's spare places count too). A statement '..UptoSaid' is the law's where the arguments, and the package variables that the reading takes, are together of bulk at most 1048576: NARROWER than '..Said'. Prove '..Said' where nothing that the law and all that it calls make is longer than what came in: it says more and counts as full. Else prove '..UptoSaid'. A law counts once. -/
mutual
def uptoBulk {H : Type} : DataW H → Nat
  | .lit (.string bytes) => bytes.length + 1
  | .lit _ => 1
  | .nil => 1
  | .ptr d => uptoBulk d + 1
  | .slice elems spare => uptoBulkAll elems + uptoBulkAll spare + 1
  | .agg parts => uptoBulkAll parts + 1
  | .iface _ d => uptoBulk d + 1
  | .map entries => uptoBulkEntries entries + 1
  | .held _ => 1
def uptoBulkAll {H : Type} : List (DataW H) → Nat
  | [] => 0
  | d :: r => uptoBulk d + uptoBulkAll r
def uptoBulkEntries {H : Type} : List (Lit × DataW H) → Nat
  | [] => 0
  | x :: r => uptoBulkEntry x + uptoBulkEntries r
def uptoBulkEntry {H : Type} : Lit × DataW H → Nat
  | (.string bytes, d) => bytes.length + uptoBulk d + 1
  | (_, d) => uptoBulk d + 1
 end
def uptoSmall : (H : Type) → List (DataW H) → Bool := fun _ ds => decide (uptoBulkAll ds ≤ 1048576)
def OpenSpec.upto (s : _root_.Go.ChangeSpec) : _root_.Go.OpenSpec := { _root_.Go.OpenSpec.ofChange s with cond := some uptoSmall }

/-- 'laws.FnExactAreNames', WHERE WHAT IT READS IS OF BULK AT MOST 1048576: true; the input reads as it did. -/
def fnExactAreNamesUptoRow : OpenClaim := { program := "ytbmjjelffpoojaa", sum := "e5e098644160af9698219949d0b81146dfdc74a290f594594b1432c505a8a04e", func := "loop.example/g01176/laws.FnExactAreNames", spec := "fnExactAreNames", apart := false, narrowed := true }
def FnExactAreNamesUptoSaid : Prop := fnExactAreNamesUptoRow.holds Try.pinned (OpenSpec.upto fnExactAreNamesSpec)

/-- 'laws.FnExactWinnerOf', WHERE WHAT IT READS IS OF BULK AT MOST 1048576: true; the input reads as it did. -/
def fnExactWinnerOfUptoRow : OpenClaim := { program := "ytbmjjelffpoojaa", sum := "e5e098644160af9698219949d0b81146dfdc74a290f594594b1432c505a8a04e", func := "loop.example/g01176/laws.FnExactWinnerOf", spec := "fnExactWinnerOf", apart := false, narrowed := true }
def FnExactWinnerOfUptoSaid : Prop := fnExactWinnerOfUptoRow.holds Try.pinned (OpenSpec.upto fnExactWinnerOfSpec)

/-- 'laws.FnExactPassedOn', WHERE WHAT IT READS IS OF BULK AT MOST 1048576: true; the input reads as it did. -/
def fnExactPassedOnUptoRow : OpenClaim := { program := "ytbmjjelffpoojaa", sum := "e5e098644160af9698219949d0b81146dfdc74a290f594594b1432c505a8a04e", func := "loop.example/g01176/laws.FnExactPassedOn", spec := "fnExactPassedOn", unfollowed := true, recurses := true, apart := false, narrowed := true }
def FnExactPassedOnUptoSaid : Prop := fnExactPassedOnUptoRow.holds Try.pinned (OpenSpec.upto fnExactPassedOnSpec)

/-- 'laws.FnExactSimpleMessages', WHERE WHAT IT READS IS OF BULK AT MOST 1048576: true; the input reads as it did. -/
def fnExactSimpleMessagesUptoRow : OpenClaim := { program := "ytbmjjelffpoojaa", sum := "e5e098644160af9698219949d0b81146dfdc74a290f594594b1432c505a8a04e", func := "loop.example/g01176/laws.FnExactSimpleMessages", spec := "fnExactSimpleMessages", unfollowed := true, recurses := true, apart := false, narrowed := true }
def FnExactSimpleMessagesUptoSaid : Prop := fnExactSimpleMessagesUptoRow.holds Try.pinned (OpenSpec.upto fnExactSimpleMessagesSpec)

/-- 'laws.FnExactSumOfMessages', WHERE WHAT IT READS IS OF BULK AT MOST 1048576: true; the input reads as it did. -/
def fnExactSumOfMessagesUptoRow : OpenClaim := { program := "ytbmjjelffpoojaa", sum := "e5e098644160af9698219949d0b81146dfdc74a290f594594b1432c505a8a04e", func := "loop.example/g01176/laws.FnExactSumOfMessages", spec := "fnExactSumOfMessages", apart := false, narrowed := true }
def FnExactSumOfMessagesUptoSaid : Prop := fnExactSumOfMessagesUptoRow.holds Try.pinned (OpenSpec.upto fnExactSumOfMessagesSpec)

/-- 'laws.FnExactAreStates', WHERE WHAT IT READS IS OF BULK AT MOST 1048576: true; the input reads as it did. -/
def fnExactAreStatesUptoRow : OpenClaim := { program := "ytbmjjelffpoojaa", sum := "e5e098644160af9698219949d0b81146dfdc74a290f594594b1432c505a8a04e", func := "loop.example/g01176/laws.FnExactAreStates", spec := "fnExactAreStates", apart := false, narrowed := true }
def FnExactAreStatesUptoSaid : Prop := fnExactAreStatesUptoRow.holds Try.pinned (OpenSpec.upto fnExactAreStatesSpec)

/-- 'laws.FnExactHoldersOf', WHERE WHAT IT READS IS OF BULK AT MOST 1048576: true; the input reads as it did. -/
def fnExactHoldersOfUptoRow : OpenClaim := { program := "ytbmjjelffpoojaa", sum := "e5e098644160af9698219949d0b81146dfdc74a290f594594b1432c505a8a04e", func := "loop.example/g01176/laws.FnExactHoldersOf", spec := "fnExactHoldersOf", apart := false, narrowed := true }
def FnExactHoldersOfUptoSaid : Prop := fnExactHoldersOfUptoRow.holds Try.pinned (OpenSpec.upto fnExactHoldersOfSpec)

/-- 'laws.FnExactFireStation', WHERE WHAT IT READS IS OF BULK AT MOST 1048576: true; the input reads as it did. -/
def fnExactFireStationUptoRow : OpenClaim := { program := "ytbmjjelffpoojaa", sum := "e5e098644160af9698219949d0b81146dfdc74a290f594594b1432c505a8a04e", func := "loop.example/g01176/laws.FnExactFireStation", spec := "fnExactFireStation", apart := false, narrowed := true }
def FnExactFireStationUptoSaid : Prop := fnExactFireStationUptoRow.holds Try.pinned (OpenSpec.upto fnExactFireStationSpec)

/-- 'laws.FnExactRunFires', WHERE WHAT IT READS IS OF BULK AT MOST 1048576: true; the input reads as it did. -/
def fnExactRunFiresUptoRow : OpenClaim := { program := "ytbmjjelffpoojaa", sum := "e5e098644160af9698219949d0b81146dfdc74a290f594594b1432c505a8a04e", func := "loop.example/g01176/laws.FnExactRunFires", spec := "fnExactRunFires", apart := false, narrowed := true }
def FnExactRunFiresUptoSaid : Prop := fnExactRunFiresUptoRow.holds Try.pinned (OpenSpec.upto fnExactRunFiresSpec)

/-- 'laws.FnExactIsOneToken', WHERE WHAT IT READS IS OF BULK AT MOST 1048576: true; the input reads as it did. -/
def fnExactIsOneTokenUptoRow : OpenClaim := { program := "ytbmjjelffpoojaa", sum := "e5e098644160af9698219949d0b81146dfdc74a290f594594b1432c505a8a04e", func := "loop.example/g01176/laws.FnExactIsOneToken", spec := "fnExactIsOneToken", apart := false, narrowed := true }
def FnExactIsOneTokenUptoSaid : Prop := fnExactIsOneTokenUptoRow.holds Try.pinned (OpenSpec.upto fnExactIsOneTokenSpec)

end Rows
end Go.Proofs.Ytbmjjelffpoojaa
