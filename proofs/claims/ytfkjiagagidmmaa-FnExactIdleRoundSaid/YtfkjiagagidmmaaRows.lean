/-
  No cell of these rows narrows 'for every input' (looked for: loops, veiled, ifaces, maps, wideKeys, modest, calm, conditions, laid).
  DERIVED. THE GIVEN ROWS OF THIS SEAT. 7 by the template 'for every input the law returns true; each argument reads behind the call as it read before'; 0 by the template 'total and deterministic' (their statements: YtfkjiagagidmmaaTotals.lean).
  GIVEN WITH THE SEED: the statements are not yours to turn. If you find one false, say at which input.
  Laid BY PROGRAM, IN A SANDBOX (cutbox-rows.mjs): the forced cells as the released guide's own fill.sh prints them over the translation ca94a70c663143ce… (all of the seat's roots in one cut). By AI agents, Wed Nov 11 2026. No macro, syntax, notation, axiom, sorry.
-/
import Derived.Test.YtfkjiagagidmmaaChecked
import GoSem.Claim
import GoSem.ClaimJoined
import GoSem.ClaimMapViews
import Derived.JoinedTies
import Derived.KernelRfl
namespace Go.Proofs.Ytfkjiagagidmmaa
/- THE CELL 'sum', in the pinned program and in every row, IS THE sha256 OF THE DUMP (.gsa) THAT YtfkjiagagidmmaaProg.lean LOADS. Nothing in Lean hashes anything: it is a label: what it is worth is what the hold of that sum in a sandbox is worth. -/
noncomputable def Try.pinned : Pinned := { name := "ytfkjiagagidmmaa", sum := "ca94a70c663143ce267ead1b6bc581162075eb1615e20a75ef3bbc9ec455d4d9", checked := Try.checked }
namespace Rows
def none {H : Type} : Left H := { results := [], args := [] }

/-- 'laws.FnExactIsTokenRing': WHATEVER THE INPUT: true; the input reads as it did. -/
def fnExactIsTokenRingSpec : ChangeSpec := { name := "fnExactIsTokenRing", fn := fun _ => fun
  | [d] => { results := [.lit (.bool true)], args := [d] }
  | _ => none }
def fnExactIsTokenRingRow : OpenClaim := { program := "ytfkjiagagidmmaa", sum := "ca94a70c663143ce267ead1b6bc581162075eb1615e20a75ef3bbc9ec455d4d9", func := "loop.example/g01176/laws.FnExactIsTokenRing", spec := "fnExactIsTokenRing", apart := false }
def FnExactIsTokenRingSaid : Prop := fnExactIsTokenRingRow.holds Try.pinned (OpenSpec.ofChange fnExactIsTokenRingSpec)

/-- ITS FALSE NEIGHBOUR: 'it returns false'. Refute it at one input. -/
def fnExactIsTokenRingWrong : ChangeSpec := { name := "fnExactIsTokenRing", fn := fun _ => fun
  | [d] => { results := [.lit (.bool false)], args := [d] }
  | _ => none }
def FnExactIsTokenRingWrongFalsely : Prop := fnExactIsTokenRingRow.holds Try.pinned (OpenSpec.ofChange fnExactIsTokenRingWrong)

/-- 'laws.FnExactAreCalls': WHATEVER THE INPUT: true; the input reads as it did. -/
def fnExactAreCallsSpec : ChangeSpec := { name := "fnExactAreCalls", fn := fun _ => fun
  | [d1, d2] => { results := [.lit (.bool true)], args := [d1, d2] }
  | _ => none }
def fnExactAreCallsRow : OpenClaim := { program := "ytfkjiagagidmmaa", sum := "ca94a70c663143ce267ead1b6bc581162075eb1615e20a75ef3bbc9ec455d4d9", func := "loop.example/g01176/laws.FnExactAreCalls", spec := "fnExactAreCalls", apart := false }
def FnExactAreCallsSaid : Prop := fnExactAreCallsRow.holds Try.pinned (OpenSpec.ofChange fnExactAreCallsSpec)

/-- ITS FALSE NEIGHBOUR: 'it returns false'. Refute it at one input. -/
def fnExactAreCallsWrong : ChangeSpec := { name := "fnExactAreCalls", fn := fun _ => fun
  | [d1, d2] => { results := [.lit (.bool false)], args := [d1, d2] }
  | _ => none }
def FnExactAreCallsWrongFalsely : Prop := fnExactAreCallsRow.holds Try.pinned (OpenSpec.ofChange fnExactAreCallsWrong)

/-- 'laws.FnExactIdleRound': WHATEVER THE INPUT: true; the input reads as it did. -/
def fnExactIdleRoundSpec : ChangeSpec := { name := "fnExactIdleRound", fn := fun _ => fun
  | [d] => { results := [.lit (.bool true)], args := [d] }
  | _ => none }
def fnExactIdleRoundRow : OpenClaim := { program := "ytfkjiagagidmmaa", sum := "ca94a70c663143ce267ead1b6bc581162075eb1615e20a75ef3bbc9ec455d4d9", func := "loop.example/g01176/laws.FnExactIdleRound", spec := "fnExactIdleRound", apart := false }
def FnExactIdleRoundSaid : Prop := fnExactIdleRoundRow.holds Try.pinned (OpenSpec.ofChange fnExactIdleRoundSpec)

/-- ITS FALSE NEIGHBOUR: 'it returns false'. Refute it at one input. -/
def fnExactIdleRoundWrong : ChangeSpec := { name := "fnExactIdleRound", fn := fun _ => fun
  | [d] => { results := [.lit (.bool false)], args := [d] }
  | _ => none }
def FnExactIdleRoundWrongFalsely : Prop := fnExactIdleRoundRow.holds Try.pinned (OpenSpec.ofChange fnExactIdleRoundWrong)

/-- 'laws.FnExactLongestRound': WHATEVER THE INPUT: true; the input reads as it did. -/
def fnExactLongestRoundSpec : ChangeSpec := { name := "fnExactLongestRound", fn := fun _ => fun
  | [d] => { results := [.lit (.bool true)], args := [d] }
  | _ => none }
def fnExactLongestRoundRow : OpenClaim := { program := "ytfkjiagagidmmaa", sum := "ca94a70c663143ce267ead1b6bc581162075eb1615e20a75ef3bbc9ec455d4d9", func := "loop.example/g01176/laws.FnExactLongestRound", spec := "fnExactLongestRound", apart := false }
def FnExactLongestRoundSaid : Prop := fnExactLongestRoundRow.holds Try.pinned (OpenSpec.ofChange fnExactLongestRoundSpec)

/-- ITS FALSE NEIGHBOUR: 'it returns false'. Refute it at one input. -/
def fnExactLongestRoundWrong : ChangeSpec := { name := "fnExactLongestRound", fn := fun _ => fun
  | [d] => { results := [.lit (.bool false)], args := [d] }
  | _ => none }
def FnExactLongestRoundWrongFalsely : Prop := fnExactLongestRoundRow.holds Try.pinned (OpenSpec.ofChange fnExactLongestRoundWrong)

/-- 'laws.FnExactWaitBound': WHATEVER THE INPUT: true; the input reads as it did. -/
def fnExactWaitBoundSpec : ChangeSpec := { name := "fnExactWaitBound", fn := fun _ => fun
  | [d1, d2] => { results := [.lit (.bool true)], args := [d1, d2] }
  | _ => none }
def fnExactWaitBoundRow : OpenClaim := { program := "ytfkjiagagidmmaa", sum := "ca94a70c663143ce267ead1b6bc581162075eb1615e20a75ef3bbc9ec455d4d9", func := "loop.example/g01176/laws.FnExactWaitBound", spec := "fnExactWaitBound", apart := false }
def FnExactWaitBoundSaid : Prop := fnExactWaitBoundRow.holds Try.pinned (OpenSpec.ofChange fnExactWaitBoundSpec)

/-- ITS FALSE NEIGHBOUR: 'it returns false'. Refute it at one input. -/
def fnExactWaitBoundWrong : ChangeSpec := { name := "fnExactWaitBound", fn := fun _ => fun
  | [d1, d2] => { results := [.lit (.bool false)], args := [d1, d2] }
  | _ => none }
def FnExactWaitBoundWrongFalsely : Prop := fnExactWaitBoundRow.holds Try.pinned (OpenSpec.ofChange fnExactWaitBoundWrong)

/-- 'laws.FnExactFullShares': WHATEVER THE INPUT: true; the input reads as it did. -/
def fnExactFullSharesSpec : ChangeSpec := { name := "fnExactFullShares", fn := fun _ => fun
  | [d1, d2] => { results := [.lit (.bool true)], args := [d1, d2] }
  | _ => none }
def fnExactFullSharesRow : OpenClaim := { program := "ytfkjiagagidmmaa", sum := "ca94a70c663143ce267ead1b6bc581162075eb1615e20a75ef3bbc9ec455d4d9", func := "loop.example/g01176/laws.FnExactFullShares", spec := "fnExactFullShares", apart := false }
def FnExactFullSharesSaid : Prop := fnExactFullSharesRow.holds Try.pinned (OpenSpec.ofChange fnExactFullSharesSpec)

/-- ITS FALSE NEIGHBOUR: 'it returns false'. Refute it at one input. -/
def fnExactFullSharesWrong : ChangeSpec := { name := "fnExactFullShares", fn := fun _ => fun
  | [d1, d2] => { results := [.lit (.bool false)], args := [d1, d2] }
  | _ => none }
def FnExactFullSharesWrongFalsely : Prop := fnExactFullSharesRow.holds Try.pinned (OpenSpec.ofChange fnExactFullSharesWrong)

/-- 'laws.FnExactFullCalls': WHATEVER THE INPUT: true; the input reads as it did. -/
def fnExactFullCallsSpec : ChangeSpec := { name := "fnExactFullCalls", fn := fun _ => fun
  | [d1, d2] => { results := [.lit (.bool true)], args := [d1, d2] }
  | _ => none }
def fnExactFullCallsRow : OpenClaim := { program := "ytfkjiagagidmmaa", sum := "ca94a70c663143ce267ead1b6bc581162075eb1615e20a75ef3bbc9ec455d4d9", func := "loop.example/g01176/laws.FnExactFullCalls", spec := "fnExactFullCalls", apart := false }
def FnExactFullCallsSaid : Prop := fnExactFullCallsRow.holds Try.pinned (OpenSpec.ofChange fnExactFullCallsSpec)

/-- ITS FALSE NEIGHBOUR: 'it returns false'. Refute it at one input. -/
def fnExactFullCallsWrong : ChangeSpec := { name := "fnExactFullCalls", fn := fun _ => fun
  | [d1, d2] => { results := [.lit (.bool false)], args := [d1, d2] }
  | _ => none }
def FnExactFullCallsWrongFalsely : Prop := fnExactFullCallsRow.holds Try.pinned (OpenSpec.ofChange fnExactFullCallsWrong)

/- THE SECOND FORM. 'bulk': how many values and letters a reading holds, each counted each time it is reached (what is shared counts as often as it is met; a slice's spare places count too). A statement '..UptoSaid' is the law's where the arguments, and the package variables that the reading takes, are together of bulk at most 1048576: NARROWER than '..Said'. Prove '..Said' where nothing that the law and all that it calls make is longer than what came in: it says more and counts as full. Else prove '..UptoSaid'. A law counts once. -/
mutual
def uptoBulk {H : Type} : DataW H → Nat
  | .lit (.string bytes) => bytes.length + 1
  | .lit _ => 1
  | .nil => 1
  | .ptr d => uptoBulk d + 1
  | .slice elems spare => uptoBulkAll elems + uptoBulkAll spare + 1
  | .agg parts => uptoBulkAll parts + 1
  | .iface _ d => uptoBulk d + 1
  | .map entries => uptoBulkEntries entries + 1
  | .held _ => 1
def uptoBulkAll {H : Type} : List (DataW H) → Nat
  | [] => 0
  | d :: r => uptoBulk d + uptoBulkAll r
def uptoBulkEntries {H : Type} : List (Lit × DataW H) → Nat
  | [] => 0
  | x :: r => uptoBulkEntry x + uptoBulkEntries r
def uptoBulkEntry {H : Type} : Lit × DataW H → Nat
  | (.string bytes, d) => bytes.length + uptoBulk d + 1
  | (_, d) => uptoBulk d + 1
 end
def uptoSmall : (H : Type) → List (DataW H) → Bool := fun _ ds => decide (uptoBulkAll ds ≤ 1048576)
def OpenSpec.upto (s : _root_.Go.ChangeSpec) : _root_.Go.OpenSpec := { _root_.Go.OpenSpec.ofChange s with cond := some uptoSmall }

/-- 'laws.FnExactIsTokenRing', WHERE WHAT IT READS IS OF BULK AT MOST 1048576: true; the input reads as it did. -/
def fnExactIsTokenRingUptoRow : OpenClaim := { program := "ytfkjiagagidmmaa", sum := "ca94a70c663143ce267ead1b6bc581162075eb1615e20a75ef3bbc9ec455d4d9", func := "loop.example/g01176/laws.FnExactIsTokenRing", spec := "fnExactIsTokenRing", apart := false, narrowed := true }
def FnExactIsTokenRingUptoSaid : Prop := fnExactIsTokenRingUptoRow.holds Try.pinned (OpenSpec.upto fnExactIsTokenRingSpec)

/-- 'laws.FnExactAreCalls', WHERE WHAT IT READS IS OF BULK AT MOST 1048576: true; the input reads as it did. -/
def fnExactAreCallsUptoRow : OpenClaim := { program := "ytfkjiagagidmmaa", sum := "ca94a70c663143ce267ead1b6bc581162075eb1615e20a75ef3bbc9ec455d4d9", func := "loop.example/g01176/laws.FnExactAreCalls", spec := "fnExactAreCalls", apart := false, narrowed := true }
def FnExactAreCallsUptoSaid : Prop := fnExactAreCallsUptoRow.holds Try.pinned (OpenSpec.upto fnExactAreCallsSpec)

/-- 'laws.FnExactIdleRound', WHERE WHAT IT READS IS OF BULK AT MOST 1048576: true; the input reads as it did. -/
def fnExactIdleRoundUptoRow : OpenClaim := { program := "ytfkjiagagidmmaa", sum := "ca94a70c663143ce267ead1b6bc581162075eb1615e20a75ef3bbc9ec455d4d9", func := "loop.example/g01176/laws.FnExactIdleRound", spec := "fnExactIdleRound", apart := false, narrowed := true }
def FnExactIdleRoundUptoSaid : Prop := fnExactIdleRoundUptoRow.holds Try.pinned (OpenSpec.upto fnExactIdleRoundSpec)

/-- 'laws.FnExactLongestRound', WHERE WHAT IT READS IS OF BULK AT MOST 1048576: true; the input reads as it did. -/
def fnExactLongestRoundUptoRow : OpenClaim := { program := "ytfkjiagagidmmaa", sum := "ca94a70c663143ce267ead1b6bc581162075eb1615e20a75ef3bbc9ec455d4d9", func := "loop.example/g01176/laws.FnExactLongestRound", spec := "fnExactLongestRound", apart := false, narrowed := true }
def FnExactLongestRoundUptoSaid : Prop := fnExactLongestRoundUptoRow.holds Try.pinned (OpenSpec.upto fnExactLongestRoundSpec)

/-- 'laws.FnExactWaitBound', WHERE WHAT IT READS IS OF BULK AT MOST 1048576: true; the input reads as it did. -/
def fnExactWaitBoundUptoRow : OpenClaim := { program := "ytfkjiagagidmmaa", sum := "ca94a70c663143ce267ead1b6bc581162075eb1615e20a75ef3bbc9ec455d4d9", func := "loop.example/g01176/laws.FnExactWaitBound", spec := "fnExactWaitBound", apart := false, narrowed := true }
def FnExactWaitBoundUptoSaid : Prop := fnExactWaitBoundUptoRow.holds Try.pinned (OpenSpec.upto fnExactWaitBoundSpec)

/-- 'laws.FnExactFullShares', WHERE WHAT IT READS IS OF BULK AT MOST 1048576: true; the input reads as it did. -/
def fnExactFullSharesUptoRow : OpenClaim := { program := "ytfkjiagagidmmaa", sum := "ca94a70c663143ce267ead1b6bc581162075eb1615e20a75ef3bbc9ec455d4d9", func := "loop.example/g01176/laws.FnExactFullShares", spec := "fnExactFullShares", apart := false, narrowed := true }
def FnExactFullSharesUptoSaid : Prop := fnExactFullSharesUptoRow.holds Try.pinned (OpenSpec.upto fnExactFullSharesSpec)

/-- 'laws.FnExactFullCalls', WHERE WHAT IT READS IS OF BULK AT MOST 1048576: true; the input reads as it did. -/
def fnExactFullCallsUptoRow : OpenClaim := { program := "ytfkjiagagidmmaa", sum := "ca94a70c663143ce267ead1b6bc581162075eb1615e20a75ef3bbc9ec455d4d9", func := "loop.example/g01176/laws.FnExactFullCalls", spec := "fnExactFullCalls", apart := false, narrowed := true }
def FnExactFullCallsUptoSaid : Prop := fnExactFullCallsUptoRow.holds Try.pinned (OpenSpec.upto fnExactFullCallsSpec)

end Rows
end Go.Proofs.Ytfkjiagagidmmaa
