/-
  No cell of these rows narrows 'for every input' (looked for: loops, veiled, ifaces, maps, wideKeys, modest, calm, conditions, laid).
  DERIVED. THE GIVEN ROWS OF THIS SEAT. 8 by the template 'for every input the law returns true; each argument reads behind the call as it read before'; 0 by the template 'total and deterministic' (their statements: YthgnflcdpmedlaaTotals.lean).
  GIVEN WITH THE SEED: the statements are not yours to turn. If you find one false, say at which input.
  Laid BY PROGRAM, IN A SANDBOX (cutbox-rows.mjs): the forced cells as the released guide's own fill.sh prints them over the translation 2216eebcab283f2d… (all of the seat's roots in one cut). By AI agents, Wed Nov 11 2026. No macro, syntax, notation, axiom, sorry.
-/
import Derived.Test.YthgnflcdpmedlaaChecked
import GoSem.Claim
import GoSem.ClaimJoined
import GoSem.ClaimMapViews
import Derived.JoinedTies
import Derived.KernelRfl
namespace Go.Proofs.Ythgnflcdpmedlaa
/- THE CELL 'sum', in the pinned program and in every row, IS THE sha256 OF THE DUMP (.gsa) THAT YthgnflcdpmedlaaProg.lean LOADS. Nothing in Lean hashes anything: it is a label: what it is worth is what the hold of that sum in a sandbox is worth. -/
noncomputable def Try.pinned : Pinned := { name := "ythgnflcdpmedlaa", sum := "2216eebcab283f2dfc319a3c7f5aa693526f8e17742975df93b22fc8d4a67171", checked := Try.checked }
namespace Rows
def none {H : Type} : Left H := { results := [], args := [] }

/-- 'laws.FnExactIsInsertRing': WHATEVER THE INPUT: true; the input reads as it did. -/
def fnExactIsInsertRingSpec : ChangeSpec := { name := "fnExactIsInsertRing", fn := fun _ => fun
  | [d] => { results := [.lit (.bool true)], args := [d] }
  | _ => none }
def fnExactIsInsertRingRow : OpenClaim := { program := "ythgnflcdpmedlaa", sum := "2216eebcab283f2dfc319a3c7f5aa693526f8e17742975df93b22fc8d4a67171", func := "loop.example/g01176/laws.FnExactIsInsertRing", spec := "fnExactIsInsertRing", apart := false }
def FnExactIsInsertRingSaid : Prop := fnExactIsInsertRingRow.holds Try.pinned (OpenSpec.ofChange fnExactIsInsertRingSpec)

/-- ITS FALSE NEIGHBOUR: 'it returns false'. Refute it at one input. -/
def fnExactIsInsertRingWrong : ChangeSpec := { name := "fnExactIsInsertRing", fn := fun _ => fun
  | [d] => { results := [.lit (.bool false)], args := [d] }
  | _ => none }
def FnExactIsInsertRingWrongFalsely : Prop := fnExactIsInsertRingRow.holds Try.pinned (OpenSpec.ofChange fnExactIsInsertRingWrong)

/-- 'laws.FnExactInsertedAt': WHATEVER THE INPUT: true; the input reads as it did. -/
def fnExactInsertedAtSpec : ChangeSpec := { name := "fnExactInsertedAt", fn := fun _ => fun
  | [d1, d2] => { results := [.lit (.bool true)], args := [d1, d2] }
  | _ => none }
def fnExactInsertedAtRow : OpenClaim := { program := "ythgnflcdpmedlaa", sum := "2216eebcab283f2dfc319a3c7f5aa693526f8e17742975df93b22fc8d4a67171", func := "loop.example/g01176/laws.FnExactInsertedAt", spec := "fnExactInsertedAt", apart := false }
def FnExactInsertedAtSaid : Prop := fnExactInsertedAtRow.holds Try.pinned (OpenSpec.ofChange fnExactInsertedAtSpec)

/-- ITS FALSE NEIGHBOUR: 'it returns false'. Refute it at one input. -/
def fnExactInsertedAtWrong : ChangeSpec := { name := "fnExactInsertedAt", fn := fun _ => fun
  | [d1, d2] => { results := [.lit (.bool false)], args := [d1, d2] }
  | _ => none }
def FnExactInsertedAtWrongFalsely : Prop := fnExactInsertedAtRow.holds Try.pinned (OpenSpec.ofChange fnExactInsertedAtWrong)

/-- 'laws.FnExactInsertRead': WHATEVER THE INPUT: true; the input reads as it did. -/
def fnExactInsertReadSpec : ChangeSpec := { name := "fnExactInsertRead", fn := fun _ => fun
  | [d1, d2] => { results := [.lit (.bool true)], args := [d1, d2] }
  | _ => none }
def fnExactInsertReadRow : OpenClaim := { program := "ythgnflcdpmedlaa", sum := "2216eebcab283f2dfc319a3c7f5aa693526f8e17742975df93b22fc8d4a67171", func := "loop.example/g01176/laws.FnExactInsertRead", spec := "fnExactInsertRead", apart := false }
def FnExactInsertReadSaid : Prop := fnExactInsertReadRow.holds Try.pinned (OpenSpec.ofChange fnExactInsertReadSpec)

/-- ITS FALSE NEIGHBOUR: 'it returns false'. Refute it at one input. -/
def fnExactInsertReadWrong : ChangeSpec := { name := "fnExactInsertRead", fn := fun _ => fun
  | [d1, d2] => { results := [.lit (.bool false)], args := [d1, d2] }
  | _ => none }
def FnExactInsertReadWrongFalsely : Prop := fnExactInsertReadRow.holds Try.pinned (OpenSpec.ofChange fnExactInsertReadWrong)

/-- 'laws.FnExactBufferPeak': WHATEVER THE INPUT: true; the input reads as it did. -/
def fnExactBufferPeakSpec : ChangeSpec := { name := "fnExactBufferPeak", fn := fun _ => fun
  | [d1, d2] => { results := [.lit (.bool true)], args := [d1, d2] }
  | _ => none }
def fnExactBufferPeakRow : OpenClaim := { program := "ythgnflcdpmedlaa", sum := "2216eebcab283f2dfc319a3c7f5aa693526f8e17742975df93b22fc8d4a67171", func := "loop.example/g01176/laws.FnExactBufferPeak", spec := "fnExactBufferPeak", apart := false }
def FnExactBufferPeakSaid : Prop := fnExactBufferPeakRow.holds Try.pinned (OpenSpec.ofChange fnExactBufferPeakSpec)

/-- ITS FALSE NEIGHBOUR: 'it returns false'. Refute it at one input. -/
def fnExactBufferPeakWrong : ChangeSpec := { name := "fnExactBufferPeak", fn := fun _ => fun
  | [d1, d2] => { results := [.lit (.bool false)], args := [d1, d2] }
  | _ => none }
def FnExactBufferPeakWrongFalsely : Prop := fnExactBufferPeakRow.holds Try.pinned (OpenSpec.ofChange fnExactBufferPeakWrong)

/-- 'laws.FnExactLastInsertRead': WHATEVER THE INPUT: true; the input reads as it did. -/
def fnExactLastInsertReadSpec : ChangeSpec := { name := "fnExactLastInsertRead", fn := fun _ => fun
  | [d1, d2] => { results := [.lit (.bool true)], args := [d1, d2] }
  | _ => none }
def fnExactLastInsertReadRow : OpenClaim := { program := "ythgnflcdpmedlaa", sum := "2216eebcab283f2dfc319a3c7f5aa693526f8e17742975df93b22fc8d4a67171", func := "loop.example/g01176/laws.FnExactLastInsertRead", spec := "fnExactLastInsertRead", apart := false }
def FnExactLastInsertReadSaid : Prop := fnExactLastInsertReadRow.holds Try.pinned (OpenSpec.ofChange fnExactLastInsertReadSpec)

/-- ITS FALSE NEIGHBOUR: 'it returns false'. Refute it at one input. -/
def fnExactLastInsertReadWrong : ChangeSpec := { name := "fnExactLastInsertRead", fn := fun _ => fun
  | [d1, d2] => { results := [.lit (.bool false)], args := [d1, d2] }
  | _ => none }
def FnExactLastInsertReadWrongFalsely : Prop := fnExactLastInsertReadRow.holds Try.pinned (OpenSpec.ofChange fnExactLastInsertReadWrong)

/-- 'laws.FnExactDelaysOfCells': WHATEVER THE INPUT: true; the input reads as it did. -/
def fnExactDelaysOfCellsSpec : ChangeSpec := { name := "fnExactDelaysOfCells", fn := fun _ => fun
  | [d1, d2] => { results := [.lit (.bool true)], args := [d1, d2] }
  | _ => none }
def fnExactDelaysOfCellsRow : OpenClaim := { program := "ythgnflcdpmedlaa", sum := "2216eebcab283f2dfc319a3c7f5aa693526f8e17742975df93b22fc8d4a67171", func := "loop.example/g01176/laws.FnExactDelaysOfCells", spec := "fnExactDelaysOfCells", apart := false }
def FnExactDelaysOfCellsSaid : Prop := fnExactDelaysOfCellsRow.holds Try.pinned (OpenSpec.ofChange fnExactDelaysOfCellsSpec)

/-- ITS FALSE NEIGHBOUR: 'it returns false'. Refute it at one input. -/
def fnExactDelaysOfCellsWrong : ChangeSpec := { name := "fnExactDelaysOfCells", fn := fun _ => fun
  | [d1, d2] => { results := [.lit (.bool false)], args := [d1, d2] }
  | _ => none }
def FnExactDelaysOfCellsWrongFalsely : Prop := fnExactDelaysOfCellsRow.holds Try.pinned (OpenSpec.ofChange fnExactDelaysOfCellsWrong)

/-- 'laws.FnExactLongestInsertWait': WHATEVER THE INPUT: true; the input reads as it did. -/
def fnExactLongestInsertWaitSpec : ChangeSpec := { name := "fnExactLongestInsertWait", fn := fun _ => fun
  | [d1, d2] => { results := [.lit (.bool true)], args := [d1, d2] }
  | _ => none }
def fnExactLongestInsertWaitRow : OpenClaim := { program := "ythgnflcdpmedlaa", sum := "2216eebcab283f2dfc319a3c7f5aa693526f8e17742975df93b22fc8d4a67171", func := "loop.example/g01176/laws.FnExactLongestInsertWait", spec := "fnExactLongestInsertWait", apart := false }
def FnExactLongestInsertWaitSaid : Prop := fnExactLongestInsertWaitRow.holds Try.pinned (OpenSpec.ofChange fnExactLongestInsertWaitSpec)

/-- ITS FALSE NEIGHBOUR: 'it returns false'. Refute it at one input. -/
def fnExactLongestInsertWaitWrong : ChangeSpec := { name := "fnExactLongestInsertWait", fn := fun _ => fun
  | [d1, d2] => { results := [.lit (.bool false)], args := [d1, d2] }
  | _ => none }
def FnExactLongestInsertWaitWrongFalsely : Prop := fnExactLongestInsertWaitRow.holds Try.pinned (OpenSpec.ofChange fnExactLongestInsertWaitWrong)

/-- 'laws.FnExactTurnInserted': WHATEVER THE INPUT: true; the input reads as it did. -/
def fnExactTurnInsertedSpec : ChangeSpec := { name := "fnExactTurnInserted", fn := fun _ => fun
  | [d1, d2, d3] => { results := [.lit (.bool true)], args := [d1, d2, d3] }
  | _ => none }
def fnExactTurnInsertedRow : OpenClaim := { program := "ythgnflcdpmedlaa", sum := "2216eebcab283f2dfc319a3c7f5aa693526f8e17742975df93b22fc8d4a67171", func := "loop.example/g01176/laws.FnExactTurnInserted", spec := "fnExactTurnInserted", apart := false }
def FnExactTurnInsertedSaid : Prop := fnExactTurnInsertedRow.holds Try.pinned (OpenSpec.ofChange fnExactTurnInsertedSpec)

/-- ITS FALSE NEIGHBOUR: 'it returns false'. Refute it at one input. -/
def fnExactTurnInsertedWrong : ChangeSpec := { name := "fnExactTurnInserted", fn := fun _ => fun
  | [d1, d2, d3] => { results := [.lit (.bool false)], args := [d1, d2, d3] }
  | _ => none }
def FnExactTurnInsertedWrongFalsely : Prop := fnExactTurnInsertedRow.holds Try.pinned (OpenSpec.ofChange fnExactTurnInsertedWrong)

/- THE SECOND FORM. 'bulk': how many values and letters a reading holds, each counted each time it is reached (what is shared counts as often as it is met; a slice's spare places count too). A statement '..UptoSaid' is the law's where the arguments, and the package variables that the reading takes, are together of bulk at most 1048576: NARROWER than '..Said'. Prove '..Said' where nothing that the law and all that it calls make is longer than what came in: it says more and counts as full. Else prove '..UptoSaid'. A law counts once. -/
mutual
def uptoBulk {H : Type} : DataW H → Nat
  | .lit (.string bytes) => bytes.length + 1
  | .lit _ => 1
  | .nil => 1
  | .ptr d => uptoBulk d + 1
  | .slice elems spare => uptoBulkAll elems + uptoBulkAll spare + 1
  | .agg parts => uptoBulkAll parts + 1
  | .iface _ d => uptoBulk d + 1
  | .map entries => uptoBulkEntries entries + 1
  | .held _ => 1
def uptoBulkAll {H : Type} : List (DataW H) → Nat
  | [] => 0
  | d :: r => uptoBulk d + uptoBulkAll r
def uptoBulkEntries {H : Type} : List (Lit × DataW H) → Nat
  | [] => 0
  | x :: r => uptoBulkEntry x + uptoBulkEntries r
def uptoBulkEntry {H : Type} : Lit × DataW H → Nat
  | (.string bytes, d) => bytes.length + uptoBulk d + 1
  | (_, d) => uptoBulk d + 1
 end
def uptoSmall : (H : Type) → List (DataW H) → Bool := fun _ ds => decide (uptoBulkAll ds ≤ 1048576)
def OpenSpec.upto (s : _root_.Go.ChangeSpec) : _root_.Go.OpenSpec := { _root_.Go.OpenSpec.ofChange s with cond := some uptoSmall }

/-- 'laws.FnExactIsInsertRing', WHERE WHAT IT READS IS OF BULK AT MOST 1048576: true; the input reads as it did. -/
def fnExactIsInsertRingUptoRow : OpenClaim := { program := "ythgnflcdpmedlaa", sum := "2216eebcab283f2dfc319a3c7f5aa693526f8e17742975df93b22fc8d4a67171", func := "loop.example/g01176/laws.FnExactIsInsertRing", spec := "fnExactIsInsertRing", apart := false, narrowed := true }
def FnExactIsInsertRingUptoSaid : Prop := fnExactIsInsertRingUptoRow.holds Try.pinned (OpenSpec.upto fnExactIsInsertRingSpec)

/-- 'laws.FnExactInsertedAt', WHERE WHAT IT READS IS OF BULK AT MOST 1048576: true; the input reads as it did. -/
def fnExactInsertedAtUptoRow : OpenClaim := { program := "ythgnflcdpmedlaa", sum := "2216eebcab283f2dfc319a3c7f5aa693526f8e17742975df93b22fc8d4a67171", func := "loop.example/g01176/laws.FnExactInsertedAt", spec := "fnExactInsertedAt", apart := false, narrowed := true }
def FnExactInsertedAtUptoSaid : Prop := fnExactInsertedAtUptoRow.holds Try.pinned (OpenSpec.upto fnExactInsertedAtSpec)

/-- 'laws.FnExactInsertRead', WHERE WHAT IT READS IS OF BULK AT MOST 1048576: true; the input reads as it did. -/
def fnExactInsertReadUptoRow : OpenClaim := { program := "ythgnflcdpmedlaa", sum := "2216eebcab283f2dfc319a3c7f5aa693526f8e17742975df93b22fc8d4a67171", func := "loop.example/g01176/laws.FnExactInsertRead", spec := "fnExactInsertRead", apart := false, narrowed := true }
def FnExactInsertReadUptoSaid : Prop := fnExactInsertReadUptoRow.holds Try.pinned (OpenSpec.upto fnExactInsertReadSpec)

/-- 'laws.FnExactBufferPeak', WHERE WHAT IT READS IS OF BULK AT MOST 1048576: true; the input reads as it did. -/
def fnExactBufferPeakUptoRow : OpenClaim := { program := "ythgnflcdpmedlaa", sum := "2216eebcab283f2dfc319a3c7f5aa693526f8e17742975df93b22fc8d4a67171", func := "loop.example/g01176/laws.FnExactBufferPeak", spec := "fnExactBufferPeak", apart := false, narrowed := true }
def FnExactBufferPeakUptoSaid : Prop := fnExactBufferPeakUptoRow.holds Try.pinned (OpenSpec.upto fnExactBufferPeakSpec)

/-- 'laws.FnExactLastInsertRead', WHERE WHAT IT READS IS OF BULK AT MOST 1048576: true; the input reads as it did. -/
def fnExactLastInsertReadUptoRow : OpenClaim := { program := "ythgnflcdpmedlaa", sum := "2216eebcab283f2dfc319a3c7f5aa693526f8e17742975df93b22fc8d4a67171", func := "loop.example/g01176/laws.FnExactLastInsertRead", spec := "fnExactLastInsertRead", apart := false, narrowed := true }
def FnExactLastInsertReadUptoSaid : Prop := fnExactLastInsertReadUptoRow.holds Try.pinned (OpenSpec.upto fnExactLastInsertReadSpec)

/-- 'laws.FnExactDelaysOfCells', WHERE WHAT IT READS IS OF BULK AT MOST 1048576: true; the input reads as it did. -/
def fnExactDelaysOfCellsUptoRow : OpenClaim := { program := "ythgnflcdpmedlaa", sum := "2216eebcab283f2dfc319a3c7f5aa693526f8e17742975df93b22fc8d4a67171", func := "loop.example/g01176/laws.FnExactDelaysOfCells", spec := "fnExactDelaysOfCells", apart := false, narrowed := true }
def FnExactDelaysOfCellsUptoSaid : Prop := fnExactDelaysOfCellsUptoRow.holds Try.pinned (OpenSpec.upto fnExactDelaysOfCellsSpec)

/-- 'laws.FnExactLongestInsertWait', WHERE WHAT IT READS IS OF BULK AT MOST 1048576: true; the input reads as it did. -/
def fnExactLongestInsertWaitUptoRow : OpenClaim := { program := "ythgnflcdpmedlaa", sum := "2216eebcab283f2dfc319a3c7f5aa693526f8e17742975df93b22fc8d4a67171", func := "loop.example/g01176/laws.FnExactLongestInsertWait", spec := "fnExactLongestInsertWait", apart := false, narrowed := true }
def FnExactLongestInsertWaitUptoSaid : Prop := fnExactLongestInsertWaitUptoRow.holds Try.pinned (OpenSpec.upto fnExactLongestInsertWaitSpec)

/-- 'laws.FnExactTurnInserted', WHERE WHAT IT READS IS OF BULK AT MOST 1048576: true; the input reads as it did. -/
def fnExactTurnInsertedUptoRow : OpenClaim := { program := "ythgnflcdpmedlaa", sum := "2216eebcab283f2dfc319a3c7f5aa693526f8e17742975df93b22fc8d4a67171", func := "loop.example/g01176/laws.FnExactTurnInserted", spec := "fnExactTurnInserted", apart := false, narrowed := true }
def FnExactTurnInsertedUptoSaid : Prop := fnExactTurnInsertedUptoRow.holds Try.pinned (OpenSpec.upto fnExactTurnInsertedSpec)

end Rows
end Go.Proofs.Ythgnflcdpmedlaa
