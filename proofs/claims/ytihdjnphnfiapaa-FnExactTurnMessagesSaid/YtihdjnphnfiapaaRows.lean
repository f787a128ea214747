/-
  No cell of these rows narrows 'for every input' (looked for: loops, veiled, ifaces, maps, wideKeys, modest, calm, conditions, laid).
  DERIVED. THE GIVEN ROWS OF THIS SEAT. 6 by the template 'for every input the law returns true; each argument reads behind the call as it read before'; 0 by the template 'total and deterministic' (their statements: YtihdjnphnfiapaaTotals.lean).
  GIVEN WITH THE SEED: the statements are not yours to turn. If you find one false, say at which input.
  Laid BY PROGRAM, IN A SANDBOX (cutbox-rows.mjs): the forced cells as the released guide's own fill.sh prints them over the translation 7dac22857424e8c8… (all of the seat's roots in one cut). By AI agents, Wed Nov 11 2026. No macro, syntax, notation, axiom, sorry.
-/
import Derived.Test.YtihdjnphnfiapaaChecked
import GoSem.Claim
import GoSem.ClaimJoined
import GoSem.ClaimMapViews
import Derived.JoinedTies
import Derived.KernelRfl
namespace Go.Proofs.Ytihdjnphnfiapaa
/- THE CELL 'sum', in the pinned program and in every row, IS THE sha256 OF THE DUMP (.gsa) THAT YtihdjnphnfiapaaProg.lean LOADS. Nothing in Lean hashes anything: it is a label: what it is worth is what the hold of that sum in a sandbox is worth. -/
noncomputable def Try.pinned : Pinned := { name := "ytihdjnphnfiapaa", sum := "7dac22857424e8c85ea661c16446723d232a633ab05a4bfb3e5b25694581ea51", checked := Try.checked }
namespace Rows
def none {H : Type} : Left H := { results := [], args := [] }

/-- 'laws.FnExactIsSlotRing': WHATEVER THE INPUT: true; the input reads as it did. -/
def fnExactIsSlotRingSpec : ChangeSpec := { name := "fnExactIsSlotRing", fn := fun _ => fun
  | [d] => { results := [.lit (.bool true)], args := [d] }
  | _ => none }
def fnExactIsSlotRingRow : OpenClaim := { program := "ytihdjnphnfiapaa", sum := "7dac22857424e8c85ea661c16446723d232a633ab05a4bfb3e5b25694581ea51", func := "loop.example/g01176/laws.FnExactIsSlotRing", spec := "fnExactIsSlotRing", apart := false }
def FnExactIsSlotRingSaid : Prop := fnExactIsSlotRingRow.holds Try.pinned (OpenSpec.ofChange fnExactIsSlotRingSpec)

/-- ITS FALSE NEIGHBOUR: 'it returns false'. Refute it at one input. -/
def fnExactIsSlotRingWrong : ChangeSpec := { name := "fnExactIsSlotRing", fn := fun _ => fun
  | [d] => { results := [.lit (.bool false)], args := [d] }
  | _ => none }
def FnExactIsSlotRingWrongFalsely : Prop := fnExactIsSlotRingRow.holds Try.pinned (OpenSpec.ofChange fnExactIsSlotRingWrong)

/-- 'laws.FnExactAreMessages': WHATEVER THE INPUT: true; the input reads as it did. -/
def fnExactAreMessagesSpec : ChangeSpec := { name := "fnExactAreMessages", fn := fun _ => fun
  | [d1, d2] => { results := [.lit (.bool true)], args := [d1, d2] }
  | _ => none }
def fnExactAreMessagesRow : OpenClaim := { program := "ytihdjnphnfiapaa", sum := "7dac22857424e8c85ea661c16446723d232a633ab05a4bfb3e5b25694581ea51", func := "loop.example/g01176/laws.FnExactAreMessages", spec := "fnExactAreMessages", apart := false }
def FnExactAreMessagesSaid : Prop := fnExactAreMessagesRow.holds Try.pinned (OpenSpec.ofChange fnExactAreMessagesSpec)

/-- ITS FALSE NEIGHBOUR: 'it returns false'. Refute it at one input. -/
def fnExactAreMessagesWrong : ChangeSpec := { name := "fnExactAreMessages", fn := fun _ => fun
  | [d1, d2] => { results := [.lit (.bool false)], args := [d1, d2] }
  | _ => none }
def FnExactAreMessagesWrongFalsely : Prop := fnExactAreMessagesRow.holds Try.pinned (OpenSpec.ofChange fnExactAreMessagesWrong)

/-- 'laws.FnExactHopsOfMessage': WHATEVER THE INPUT: true; the input reads as it did. -/
def fnExactHopsOfMessageSpec : ChangeSpec := { name := "fnExactHopsOfMessage", fn := fun _ => fun
  | [d1, d2] => { results := [.lit (.bool true)], args := [d1, d2] }
  | _ => none }
def fnExactHopsOfMessageRow : OpenClaim := { program := "ytihdjnphnfiapaa", sum := "7dac22857424e8c85ea661c16446723d232a633ab05a4bfb3e5b25694581ea51", func := "loop.example/g01176/laws.FnExactHopsOfMessage", spec := "fnExactHopsOfMessage", apart := false }
def FnExactHopsOfMessageSaid : Prop := fnExactHopsOfMessageRow.holds Try.pinned (OpenSpec.ofChange fnExactHopsOfMessageSpec)

/-- ITS FALSE NEIGHBOUR: 'it returns false'. Refute it at one input. -/
def fnExactHopsOfMessageWrong : ChangeSpec := { name := "fnExactHopsOfMessage", fn := fun _ => fun
  | [d1, d2] => { results := [.lit (.bool false)], args := [d1, d2] }
  | _ => none }
def FnExactHopsOfMessageWrongFalsely : Prop := fnExactHopsOfMessageRow.holds Try.pinned (OpenSpec.ofChange fnExactHopsOfMessageWrong)

/-- 'laws.FnExactSlotBound': WHATEVER THE INPUT: true; the input reads as it did. -/
def fnExactSlotBoundSpec : ChangeSpec := { name := "fnExactSlotBound", fn := fun _ => fun
  | [d1, d2] => { results := [.lit (.bool true)], args := [d1, d2] }
  | _ => none }
def fnExactSlotBoundRow : OpenClaim := { program := "ytihdjnphnfiapaa", sum := "7dac22857424e8c85ea661c16446723d232a633ab05a4bfb3e5b25694581ea51", func := "loop.example/g01176/laws.FnExactSlotBound", spec := "fnExactSlotBound", apart := false }
def FnExactSlotBoundSaid : Prop := fnExactSlotBoundRow.holds Try.pinned (OpenSpec.ofChange fnExactSlotBoundSpec)

/-- ITS FALSE NEIGHBOUR: 'it returns false'. Refute it at one input. -/
def fnExactSlotBoundWrong : ChangeSpec := { name := "fnExactSlotBound", fn := fun _ => fun
  | [d1, d2] => { results := [.lit (.bool false)], args := [d1, d2] }
  | _ => none }
def FnExactSlotBoundWrongFalsely : Prop := fnExactSlotBoundRow.holds Try.pinned (OpenSpec.ofChange fnExactSlotBoundWrong)

/-- 'laws.FnExactLoadOfLinks': WHATEVER THE INPUT: true; the input reads as it did. -/
def fnExactLoadOfLinksSpec : ChangeSpec := { name := "fnExactLoadOfLinks", fn := fun _ => fun
  | [d1, d2] => { results := [.lit (.bool true)], args := [d1, d2] }
  | _ => none }
def fnExactLoadOfLinksRow : OpenClaim := { program := "ytihdjnphnfiapaa", sum := "7dac22857424e8c85ea661c16446723d232a633ab05a4bfb3e5b25694581ea51", func := "loop.example/g01176/laws.FnExactLoadOfLinks", spec := "fnExactLoadOfLinks", apart := false }
def FnExactLoadOfLinksSaid : Prop := fnExactLoadOfLinksRow.holds Try.pinned (OpenSpec.ofChange fnExactLoadOfLinksSpec)

/-- ITS FALSE NEIGHBOUR: 'it returns false'. Refute it at one input. -/
def fnExactLoadOfLinksWrong : ChangeSpec := { name := "fnExactLoadOfLinks", fn := fun _ => fun
  | [d1, d2] => { results := [.lit (.bool false)], args := [d1, d2] }
  | _ => none }
def FnExactLoadOfLinksWrongFalsely : Prop := fnExactLoadOfLinksRow.holds Try.pinned (OpenSpec.ofChange fnExactLoadOfLinksWrong)

/-- 'laws.FnExactTurnMessages': WHATEVER THE INPUT: true; the input reads as it did. -/
def fnExactTurnMessagesSpec : ChangeSpec := { name := "fnExactTurnMessages", fn := fun _ => fun
  | [d1, d2, d3] => { results := [.lit (.bool true)], args := [d1, d2, d3] }
  | _ => none }
def fnExactTurnMessagesRow : OpenClaim := { program := "ytihdjnphnfiapaa", sum := "7dac22857424e8c85ea661c16446723d232a633ab05a4bfb3e5b25694581ea51", func := "loop.example/g01176/laws.FnExactTurnMessages", spec := "fnExactTurnMessages", apart := false }
def FnExactTurnMessagesSaid : Prop := fnExactTurnMessagesRow.holds Try.pinned (OpenSpec.ofChange fnExactTurnMessagesSpec)

/-- ITS FALSE NEIGHBOUR: 'it returns false'. Refute it at one input. -/
def fnExactTurnMessagesWrong : ChangeSpec := { name := "fnExactTurnMessages", fn := fun _ => fun
  | [d1, d2, d3] => { results := [.lit (.bool false)], args := [d1, d2, d3] }
  | _ => none }
def FnExactTurnMessagesWrongFalsely : Prop := fnExactTurnMessagesRow.holds Try.pinned (OpenSpec.ofChange fnExactTurnMessagesWrong)

/- THE SECOND FORM. 'bulk': how many values and letters a reading holds, each counted each time it is reached (what is shared counts as often as it is met; a slice's spare places count too). A statement '..UptoSaid' is the law's where the arguments, and the package variables that the reading takes, are together of bulk at most 1048576: NARROWER than '..Said'. Prove '..Said' where nothing that the law and all that it calls make is longer than what came in: it says more and counts as full. Else prove '..UptoSaid'. A law counts once. -/
mutual
def uptoBulk {H : Type} : DataW H → Nat
  | .lit (.string bytes) => bytes.length + 1
  | .lit _ => 1
  | .nil => 1
  | .ptr d => uptoBulk d + 1
  | .slice elems spare => uptoBulkAll elems + uptoBulkAll spare + 1
  | .agg parts => uptoBulkAll parts + 1
  | .iface _ d => uptoBulk d + 1
  | .map entries => uptoBulkEntries entries + 1
  | .held _ => 1
def uptoBulkAll {H : Type} : List (DataW H) → Nat
  | [] => 0
  | d :: r => uptoBulk d + uptoBulkAll r
def uptoBulkEntries {H : Type} : List (Lit × DataW H) → Nat
  | [] => 0
  | x :: r => uptoBulkEntry x + uptoBulkEntries r
def uptoBulkEntry {H : Type} : Lit × DataW H → Nat
  | (.string bytes, d) => bytes.length + uptoBulk d + 1
  | (_, d) => uptoBulk d + 1
 end
def uptoSmall : (H : Type) → List (DataW H) → Bool := fun _ ds => decide (uptoBulkAll ds ≤ 1048576)
def OpenSpec.upto (s : _root_.Go.ChangeSpec) : _root_.Go.OpenSpec := { _root_.Go.OpenSpec.ofChange s with cond := some uptoSmall }

/-- 'laws.FnExactIsSlotRing', WHERE WHAT IT READS IS OF BULK AT MOST 1048576: true; the input reads as it did. -/
def fnExactIsSlotRingUptoRow : OpenClaim := { program := "ytihdjnphnfiapaa", sum := "7dac22857424e8c85ea661c16446723d232a633ab05a4bfb3e5b25694581ea51", func := "loop.example/g01176/laws.FnExactIsSlotRing", spec := "fnExactIsSlotRing", apart := false, narrowed := true }
def FnExactIsSlotRingUptoSaid : Prop := fnExactIsSlotRingUptoRow.holds Try.pinned (OpenSpec.upto fnExactIsSlotRingSpec)

/-- 'laws.FnExactAreMessages', WHERE WHAT IT READS IS OF BULK AT MOST 1048576: true; the input reads as it did. -/
def fnExactAreMessagesUptoRow : OpenClaim := { program := "ytihdjnphnfiapaa", sum := "7dac22857424e8c85ea661c16446723d232a633ab05a4bfb3e5b25694581ea51", func := "loop.example/g01176/laws.FnExactAreMessages", spec := "fnExactAreMessages", apart := false, narrowed := true }
def FnExactAreMessagesUptoSaid : Prop := fnExactAreMessagesUptoRow.holds Try.pinned (OpenSpec.upto fnExactAreMessagesSpec)

/-- 'laws.FnExactHopsOfMessage', WHERE WHAT IT READS IS OF BULK AT MOST 1048576: true; the input reads as it did. -/
def fnExactHopsOfMessageUptoRow : OpenClaim := { program := "ytihdjnphnfiapaa", sum := "7dac22857424e8c85ea661c16446723d232a633ab05a4bfb3e5b25694581ea51", func := "loop.example/g01176/laws.FnExactHopsOfMessage", spec := "fnExactHopsOfMessage", apart := false, narrowed := true }
def FnExactHopsOfMessageUptoSaid : Prop := fnExactHopsOfMessageUptoRow.holds Try.pinned (OpenSpec.upto fnExactHopsOfMessageSpec)

/-- 'laws.FnExactSlotBound', WHERE WHAT IT READS IS OF BULK AT MOST 1048576: true; the input reads as it did. -/
def fnExactSlotBoundUptoRow : OpenClaim := { program := "ytihdjnphnfiapaa", sum := "7dac22857424e8c85ea661c16446723d232a633ab05a4bfb3e5b25694581ea51", func := "loop.example/g01176/laws.FnExactSlotBound", spec := "fnExactSlotBound", apart := false, narrowed := true }
def FnExactSlotBoundUptoSaid : Prop := fnExactSlotBoundUptoRow.holds Try.pinned (OpenSpec.upto fnExactSlotBoundSpec)

/-- 'laws.FnExactLoadOfLinks', WHERE WHAT IT READS IS OF BULK AT MOST 1048576: true; the input reads as it did. -/
def fnExactLoadOfLinksUptoRow : OpenClaim := { program := "ytihdjnphnfiapaa", sum := "7dac22857424e8c85ea661c16446723d232a633ab05a4bfb3e5b25694581ea51", func := "loop.example/g01176/laws.FnExactLoadOfLinks", spec := "fnExactLoadOfLinks", apart := false, narrowed := true }
def FnExactLoadOfLinksUptoSaid : Prop := fnExactLoadOfLinksUptoRow.holds Try.pinned (OpenSpec.upto fnExactLoadOfLinksSpec)

/-- 'laws.FnExactTurnMessages', WHERE WHAT IT READS IS OF BULK AT MOST 1048576: true; the input reads as it did. -/
def fnExactTurnMessagesUptoRow : OpenClaim := { program := "ytihdjnphnfiapaa", sum := "7dac22857424e8c85ea661c16446723d232a633ab05a4bfb3e5b25694581ea51", func := "loop.example/g01176/laws.FnExactTurnMessages", spec := "fnExactTurnMessages", apart := false, narrowed := true }
def FnExactTurnMessagesUptoSaid : Prop := fnExactTurnMessagesUptoRow.holds Try.pinned (OpenSpec.upto fnExactTurnMessagesSpec)

end Rows
end Go.Proofs.Ytihdjnphnfiapaa
