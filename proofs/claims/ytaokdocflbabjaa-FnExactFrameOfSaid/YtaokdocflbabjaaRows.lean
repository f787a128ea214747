/-
  No cell of these rows narrows 'for every input' (looked for: loops, veiled, ifaces, maps, wideKeys, modest, calm, conditions, laid).
  DERIVED. THE GIVEN ROWS OF THIS SEAT. 13 by the template 'for every input the law returns true; each argument reads behind the call as it read before'; 0 by the template 'total and deterministic' (their statements: YtaokdocflbabjaaTotals.lean).
  GIVEN WITH THE SEED: the statements are not yours to turn. If you find one false, say at which input.
  Laid BY PROGRAM, IN A SANDBOX (cutbox-rows.mjs): the forced cells as the released guide's own fill.sh prints them over the translation ddf1381e535391af… (all of the seat's roots in one cut). By AI agents, Wed Nov 11 2026. No macro, syntax, notation, axiom, sorry.
-/
import Derived.Test.YtaokdocflbabjaaChecked
import GoSem.Claim
import GoSem.ClaimJoined
import GoSem.ClaimMapViews
import Derived.JoinedTies
import Derived.KernelRfl
namespace Go.Proofs.Ytaokdocflbabjaa
/- THE CELL 'sum', in the pinned program and in every row, IS THE sha256 OF THE DUMP (.gsa) THAT YtaokdocflbabjaaProg.lean LOADS. Nothing in Lean hashes anything: it is a label: what it is worth is what the hold of that sum in a sandbox is worth. -/
noncomputable def Try.pinned : Pinned := { name := "ytaokdocflbabjaa", sum := "ddf1381e535391af7e6b4d69dce9c3cc17cda496504f27aa30133d92e1d2b61e", checked := Try.checked }
namespace Rows
def none {H : Type} : Left H := { results := [], args := [] }

/-- 'laws.FnBitsStuffed': WHATEVER THE INPUT: true; the input reads as it did. -/
def fnBitsStuffedSpec : ChangeSpec := { name := "fnBitsStuffed", fn := fun _ => fun
  | [d1, d2] => { results := [.lit (.bool true)], args := [d1, d2] }
  | _ => none }
def fnBitsStuffedRow : OpenClaim := { program := "ytaokdocflbabjaa", sum := "ddf1381e535391af7e6b4d69dce9c3cc17cda496504f27aa30133d92e1d2b61e", func := "loop.example/g01176/laws.FnBitsStuffed", spec := "fnBitsStuffed", apart := false }
def FnBitsStuffedSaid : Prop := fnBitsStuffedRow.holds Try.pinned (OpenSpec.ofChange fnBitsStuffedSpec)

/-- ITS FALSE NEIGHBOUR: 'it returns false'. Refute it at one input. -/
def fnBitsStuffedWrong : ChangeSpec := { name := "fnBitsStuffed", fn := fun _ => fun
  | [d1, d2] => { results := [.lit (.bool false)], args := [d1, d2] }
  | _ => none }
def FnBitsStuffedWrongFalsely : Prop := fnBitsStuffedRow.holds Try.pinned (OpenSpec.ofChange fnBitsStuffedWrong)

/-- 'laws.FnExactIsFrame': WHATEVER THE INPUT: true; the input reads as it did. -/
def fnExactIsFrameSpec : ChangeSpec := { name := "fnExactIsFrame", fn := fun _ => fun
  | [d] => { results := [.lit (.bool true)], args := [d] }
  | _ => none }
def fnExactIsFrameRow : OpenClaim := { program := "ytaokdocflbabjaa", sum := "ddf1381e535391af7e6b4d69dce9c3cc17cda496504f27aa30133d92e1d2b61e", func := "loop.example/g01176/laws.FnExactIsFrame", spec := "fnExactIsFrame", apart := false }
def FnExactIsFrameSaid : Prop := fnExactIsFrameRow.holds Try.pinned (OpenSpec.ofChange fnExactIsFrameSpec)

/-- ITS FALSE NEIGHBOUR: 'it returns false'. Refute it at one input. -/
def fnExactIsFrameWrong : ChangeSpec := { name := "fnExactIsFrame", fn := fun _ => fun
  | [d] => { results := [.lit (.bool false)], args := [d] }
  | _ => none }
def FnExactIsFrameWrongFalsely : Prop := fnExactIsFrameRow.holds Try.pinned (OpenSpec.ofChange fnExactIsFrameWrong)

/-- 'laws.FnExactBytesOf': WHATEVER THE INPUT: true; the input reads as it did. -/
def fnExactBytesOfSpec : ChangeSpec := { name := "fnExactBytesOf", fn := fun _ => fun
  | [d] => { results := [.lit (.bool true)], args := [d] }
  | _ => none }
def fnExactBytesOfRow : OpenClaim := { program := "ytaokdocflbabjaa", sum := "ddf1381e535391af7e6b4d69dce9c3cc17cda496504f27aa30133d92e1d2b61e", func := "loop.example/g01176/laws.FnExactBytesOf", spec := "fnExactBytesOf", apart := false }
def FnExactBytesOfSaid : Prop := fnExactBytesOfRow.holds Try.pinned (OpenSpec.ofChange fnExactBytesOfSpec)

/-- ITS FALSE NEIGHBOUR: 'it returns false'. Refute it at one input. -/
def fnExactBytesOfWrong : ChangeSpec := { name := "fnExactBytesOf", fn := fun _ => fun
  | [d] => { results := [.lit (.bool false)], args := [d] }
  | _ => none }
def FnExactBytesOfWrongFalsely : Prop := fnExactBytesOfRow.holds Try.pinned (OpenSpec.ofChange fnExactBytesOfWrong)

/-- 'laws.FnExactFrameOf': WHATEVER THE INPUT: true; the input reads as it did. -/
def fnExactFrameOfSpec : ChangeSpec := { name := "fnExactFrameOf", fn := fun _ => fun
  | [d] => { results := [.lit (.bool true)], args := [d] }
  | _ => none }
def fnExactFrameOfRow : OpenClaim := { program := "ytaokdocflbabjaa", sum := "ddf1381e535391af7e6b4d69dce9c3cc17cda496504f27aa30133d92e1d2b61e", func := "loop.example/g01176/laws.FnExactFrameOf", spec := "fnExactFrameOf", apart := false }
def FnExactFrameOfSaid : Prop := fnExactFrameOfRow.holds Try.pinned (OpenSpec.ofChange fnExactFrameOfSpec)

/-- ITS FALSE NEIGHBOUR: 'it returns false'. Refute it at one input. -/
def fnExactFrameOfWrong : ChangeSpec := { name := "fnExactFrameOf", fn := fun _ => fun
  | [d] => { results := [.lit (.bool false)], args := [d] }
  | _ => none }
def FnExactFrameOfWrongFalsely : Prop := fnExactFrameOfRow.holds Try.pinned (OpenSpec.ofChange fnExactFrameOfWrong)

/-- 'laws.FnExactCheckOf': WHATEVER THE INPUT: true; the input reads as it did. -/
def fnExactCheckOfSpec : ChangeSpec := { name := "fnExactCheckOf", fn := fun _ => fun
  | [d] => { results := [.lit (.bool true)], args := [d] }
  | _ => none }
def fnExactCheckOfRow : OpenClaim := { program := "ytaokdocflbabjaa", sum := "ddf1381e535391af7e6b4d69dce9c3cc17cda496504f27aa30133d92e1d2b61e", func := "loop.example/g01176/laws.FnExactCheckOf", spec := "fnExactCheckOf", apart := false }
def FnExactCheckOfSaid : Prop := fnExactCheckOfRow.holds Try.pinned (OpenSpec.ofChange fnExactCheckOfSpec)

/-- ITS FALSE NEIGHBOUR: 'it returns false'. Refute it at one input. -/
def fnExactCheckOfWrong : ChangeSpec := { name := "fnExactCheckOf", fn := fun _ => fun
  | [d] => { results := [.lit (.bool false)], args := [d] }
  | _ => none }
def FnExactCheckOfWrongFalsely : Prop := fnExactCheckOfRow.holds Try.pinned (OpenSpec.ofChange fnExactCheckOfWrong)

/-- 'laws.FnExactHasCheck': WHATEVER THE INPUT: true; the input reads as it did. -/
def fnExactHasCheckSpec : ChangeSpec := { name := "fnExactHasCheck", fn := fun _ => fun
  | [d] => { results := [.lit (.bool true)], args := [d] }
  | _ => none }
def fnExactHasCheckRow : OpenClaim := { program := "ytaokdocflbabjaa", sum := "ddf1381e535391af7e6b4d69dce9c3cc17cda496504f27aa30133d92e1d2b61e", func := "loop.example/g01176/laws.FnExactHasCheck", spec := "fnExactHasCheck", apart := false }
def FnExactHasCheckSaid : Prop := fnExactHasCheckRow.holds Try.pinned (OpenSpec.ofChange fnExactHasCheckSpec)

/-- ITS FALSE NEIGHBOUR: 'it returns false'. Refute it at one input. -/
def fnExactHasCheckWrong : ChangeSpec := { name := "fnExactHasCheck", fn := fun _ => fun
  | [d] => { results := [.lit (.bool false)], args := [d] }
  | _ => none }
def FnExactHasCheckWrongFalsely : Prop := fnExactHasCheckRow.holds Try.pinned (OpenSpec.ofChange fnExactHasCheckWrong)

/-- 'laws.FnExactBitsOf': WHATEVER THE INPUT: true; the input reads as it did. -/
def fnExactBitsOfSpec : ChangeSpec := { name := "fnExactBitsOf", fn := fun _ => fun
  | [d] => { results := [.lit (.bool true)], args := [d] }
  | _ => none }
def fnExactBitsOfRow : OpenClaim := { program := "ytaokdocflbabjaa", sum := "ddf1381e535391af7e6b4d69dce9c3cc17cda496504f27aa30133d92e1d2b61e", func := "loop.example/g01176/laws.FnExactBitsOf", spec := "fnExactBitsOf", apart := false }
def FnExactBitsOfSaid : Prop := fnExactBitsOfRow.holds Try.pinned (OpenSpec.ofChange fnExactBitsOfSpec)

/-- ITS FALSE NEIGHBOUR: 'it returns false'. Refute it at one input. -/
def fnExactBitsOfWrong : ChangeSpec := { name := "fnExactBitsOf", fn := fun _ => fun
  | [d] => { results := [.lit (.bool false)], args := [d] }
  | _ => none }
def FnExactBitsOfWrongFalsely : Prop := fnExactBitsOfRow.holds Try.pinned (OpenSpec.ofChange fnExactBitsOfWrong)

/-- 'laws.FnExactFromBits': WHATEVER THE INPUT: true; the input reads as it did. -/
def fnExactFromBitsSpec : ChangeSpec := { name := "fnExactFromBits", fn := fun _ => fun
  | [d] => { results := [.lit (.bool true)], args := [d] }
  | _ => none }
def fnExactFromBitsRow : OpenClaim := { program := "ytaokdocflbabjaa", sum := "ddf1381e535391af7e6b4d69dce9c3cc17cda496504f27aa30133d92e1d2b61e", func := "loop.example/g01176/laws.FnExactFromBits", spec := "fnExactFromBits", apart := false }
def FnExactFromBitsSaid : Prop := fnExactFromBitsRow.holds Try.pinned (OpenSpec.ofChange fnExactFromBitsSpec)

/-- ITS FALSE NEIGHBOUR: 'it returns false'. Refute it at one input. -/
def fnExactFromBitsWrong : ChangeSpec := { name := "fnExactFromBits", fn := fun _ => fun
  | [d] => { results := [.lit (.bool false)], args := [d] }
  | _ => none }
def FnExactFromBitsWrongFalsely : Prop := fnExactFromBitsRow.holds Try.pinned (OpenSpec.ofChange fnExactFromBitsWrong)

/-- 'laws.FnExactStuffBits': WHATEVER THE INPUT: true; the input reads as it did. -/
def fnExactStuffBitsSpec : ChangeSpec := { name := "fnExactStuffBits", fn := fun _ => fun
  | [d] => { results := [.lit (.bool true)], args := [d] }
  | _ => none }
def fnExactStuffBitsRow : OpenClaim := { program := "ytaokdocflbabjaa", sum := "ddf1381e535391af7e6b4d69dce9c3cc17cda496504f27aa30133d92e1d2b61e", func := "loop.example/g01176/laws.FnExactStuffBits", spec := "fnExactStuffBits", apart := false }
def FnExactStuffBitsSaid : Prop := fnExactStuffBitsRow.holds Try.pinned (OpenSpec.ofChange fnExactStuffBitsSpec)

/-- ITS FALSE NEIGHBOUR: 'it returns false'. Refute it at one input. -/
def fnExactStuffBitsWrong : ChangeSpec := { name := "fnExactStuffBits", fn := fun _ => fun
  | [d] => { results := [.lit (.bool false)], args := [d] }
  | _ => none }
def FnExactStuffBitsWrongFalsely : Prop := fnExactStuffBitsRow.holds Try.pinned (OpenSpec.ofChange fnExactStuffBitsWrong)

/-- 'laws.FnExactUnstuffBits': WHATEVER THE INPUT: true; the input reads as it did. -/
def fnExactUnstuffBitsSpec : ChangeSpec := { name := "fnExactUnstuffBits", fn := fun _ => fun
  | [d] => { results := [.lit (.bool true)], args := [d] }
  | _ => none }
def fnExactUnstuffBitsRow : OpenClaim := { program := "ytaokdocflbabjaa", sum := "ddf1381e535391af7e6b4d69dce9c3cc17cda496504f27aa30133d92e1d2b61e", func := "loop.example/g01176/laws.FnExactUnstuffBits", spec := "fnExactUnstuffBits", apart := false }
def FnExactUnstuffBitsSaid : Prop := fnExactUnstuffBitsRow.holds Try.pinned (OpenSpec.ofChange fnExactUnstuffBitsSpec)

/-- ITS FALSE NEIGHBOUR: 'it returns false'. Refute it at one input. -/
def fnExactUnstuffBitsWrong : ChangeSpec := { name := "fnExactUnstuffBits", fn := fun _ => fun
  | [d] => { results := [.lit (.bool false)], args := [d] }
  | _ => none }
def FnExactUnstuffBitsWrongFalsely : Prop := fnExactUnstuffBitsRow.holds Try.pinned (OpenSpec.ofChange fnExactUnstuffBitsWrong)

/-- 'laws.FnExactFlipBits': WHATEVER THE INPUT: true; the input reads as it did. -/
def fnExactFlipBitsSpec : ChangeSpec := { name := "fnExactFlipBits", fn := fun _ => fun
  | [d1, d2] => { results := [.lit (.bool true)], args := [d1, d2] }
  | _ => none }
def fnExactFlipBitsRow : OpenClaim := { program := "ytaokdocflbabjaa", sum := "ddf1381e535391af7e6b4d69dce9c3cc17cda496504f27aa30133d92e1d2b61e", func := "loop.example/g01176/laws.FnExactFlipBits", spec := "fnExactFlipBits", apart := false }
def FnExactFlipBitsSaid : Prop := fnExactFlipBitsRow.holds Try.pinned (OpenSpec.ofChange fnExactFlipBitsSpec)

/-- ITS FALSE NEIGHBOUR: 'it returns false'. Refute it at one input. -/
def fnExactFlipBitsWrong : ChangeSpec := { name := "fnExactFlipBits", fn := fun _ => fun
  | [d1, d2] => { results := [.lit (.bool false)], args := [d1, d2] }
  | _ => none }
def FnExactFlipBitsWrongFalsely : Prop := fnExactFlipBitsRow.holds Try.pinned (OpenSpec.ofChange fnExactFlipBitsWrong)

/-- 'laws.FnExactDistanceOf': WHATEVER THE INPUT: true; the input reads as it did. -/
def fnExactDistanceOfSpec : ChangeSpec := { name := "fnExactDistanceOf", fn := fun _ => fun
  | [d1, d2] => { results := [.lit (.bool true)], args := [d1, d2] }
  | _ => none }
def fnExactDistanceOfRow : OpenClaim := { program := "ytaokdocflbabjaa", sum := "ddf1381e535391af7e6b4d69dce9c3cc17cda496504f27aa30133d92e1d2b61e", func := "loop.example/g01176/laws.FnExactDistanceOf", spec := "fnExactDistanceOf", apart := false }
def FnExactDistanceOfSaid : Prop := fnExactDistanceOfRow.holds Try.pinned (OpenSpec.ofChange fnExactDistanceOfSpec)

/-- ITS FALSE NEIGHBOUR: 'it returns false'. Refute it at one input. -/
def fnExactDistanceOfWrong : ChangeSpec := { name := "fnExactDistanceOf", fn := fun _ => fun
  | [d1, d2] => { results := [.lit (.bool false)], args := [d1, d2] }
  | _ => none }
def FnExactDistanceOfWrongFalsely : Prop := fnExactDistanceOfRow.holds Try.pinned (OpenSpec.ofChange fnExactDistanceOfWrong)

/-- 'laws.FnExactFirstBlind': WHATEVER THE INPUT: true; the input reads as it did. -/
def fnExactFirstBlindSpec : ChangeSpec := { name := "fnExactFirstBlind", fn := fun _ => fun
  | [d1, d2] => { results := [.lit (.bool true)], args := [d1, d2] }
  | _ => none }
def fnExactFirstBlindRow : OpenClaim := { program := "ytaokdocflbabjaa", sum := "ddf1381e535391af7e6b4d69dce9c3cc17cda496504f27aa30133d92e1d2b61e", func := "loop.example/g01176/laws.FnExactFirstBlind", spec := "fnExactFirstBlind", inPlace := ["slices.overlaps[int]"], recurses := true, apart := false }
def FnExactFirstBlindSaid : Prop := fnExactFirstBlindRow.holds Try.pinned (OpenSpec.ofChange fnExactFirstBlindSpec)

/-- ITS FALSE NEIGHBOUR: 'it returns false'. Refute it at one input. -/
def fnExactFirstBlindWrong : ChangeSpec := { name := "fnExactFirstBlind", fn := fun _ => fun
  | [d1, d2] => { results := [.lit (.bool false)], args := [d1, d2] }
  | _ => none }
def FnExactFirstBlindWrongFalsely : Prop := fnExactFirstBlindRow.holds Try.pinned (OpenSpec.ofChange fnExactFirstBlindWrong)

/- THE SECOND FORM. 'bulk': how many values and letters a reading holds, each counted each time it is reached (what is shared counts as often as it is met; a slice's spare places count too). A statement '..UptoSaid' is the law's where the arguments, and the package variables that the reading takes, are together of bulk at most 1048576: NARROWER than '..Said'. Prove '..Said' where nothing that the law and all that it calls make is longer than what came in: it says more and counts as full. Else prove '..UptoSaid'. A law counts once. -/
mutual
def uptoBulk {H : Type} : DataW H → Nat
  | .lit (.string bytes) => bytes.length + 1
  | .lit _ => 1
  | .nil => 1
  | .ptr d => uptoBulk d + 1
  | .slice elems spare => uptoBulkAll elems + uptoBulkAll spare + 1
  | .agg parts => uptoBulkAll parts + 1
  | .iface _ d => uptoBulk d + 1
  | .map entries => uptoBulkEntries entries + 1
  | .held _ => 1
def uptoBulkAll {H : Type} : List (DataW H) → Nat
  | [] => 0
  | d :: r => uptoBulk d + uptoBulkAll r
def uptoBulkEntries {H : Type} : List (Lit × DataW H) → Nat
  | [] => 0
  | x :: r => uptoBulkEntry x + uptoBulkEntries r
def uptoBulkEntry {H : Type} : Lit × DataW H → Nat
  | (.string bytes, d) => bytes.length + uptoBulk d + 1
  | (_, d) => uptoBulk d + 1
 end
def uptoSmall : (H : Type) → List (DataW H) → Bool := fun _ ds => decide (uptoBulkAll ds ≤ 1048576)
def OpenSpec.upto (s : _root_.Go.ChangeSpec) : _root_.Go.OpenSpec := { _root_.Go.OpenSpec.ofChange s with cond := some uptoSmall }

/-- 'laws.FnBitsStuffed', WHERE WHAT IT READS IS OF BULK AT MOST 1048576: true; the input reads as it did. -/
def fnBitsStuffedUptoRow : OpenClaim := { program := "ytaokdocflbabjaa", sum := "ddf1381e535391af7e6b4d69dce9c3cc17cda496504f27aa30133d92e1d2b61e", func := "loop.example/g01176/laws.FnBitsStuffed", spec := "fnBitsStuffed", apart := false, narrowed := true }
def FnBitsStuffedUptoSaid : Prop := fnBitsStuffedUptoRow.holds Try.pinned (OpenSpec.upto fnBitsStuffedSpec)

/-- 'laws.FnExactIsFrame', WHERE WHAT IT READS IS OF BULK AT MOST 1048576: true; the input reads as it did. -/
def fnExactIsFrameUptoRow : OpenClaim := { program := "ytaokdocflbabjaa", sum := "ddf1381e535391af7e6b4d69dce9c3cc17cda496504f27aa30133d92e1d2b61e", func := "loop.example/g01176/laws.FnExactIsFrame", spec := "fnExactIsFrame", apart := false, narrowed := true }
def FnExactIsFrameUptoSaid : Prop := fnExactIsFrameUptoRow.holds Try.pinned (OpenSpec.upto fnExactIsFrameSpec)

/-- 'laws.FnExactBytesOf', WHERE WHAT IT READS IS OF BULK AT MOST 1048576: true; the input reads as it did. -/
def fnExactBytesOfUptoRow : OpenClaim := { program := "ytaokdocflbabjaa", sum := "ddf1381e535391af7e6b4d69dce9c3cc17cda496504f27aa30133d92e1d2b61e", func := "loop.example/g01176/laws.FnExactBytesOf", spec := "fnExactBytesOf", apart := false, narrowed := true }
def FnExactBytesOfUptoSaid : Prop := fnExactBytesOfUptoRow.holds Try.pinned (OpenSpec.upto fnExactBytesOfSpec)

/-- 'laws.FnExactFrameOf', WHERE WHAT IT READS IS OF BULK AT MOST 1048576: true; the input reads as it did. -/
def fnExactFrameOfUptoRow : OpenClaim := { program := "ytaokdocflbabjaa", sum := "ddf1381e535391af7e6b4d69dce9c3cc17cda496504f27aa30133d92e1d2b61e", func := "loop.example/g01176/laws.FnExactFrameOf", spec := "fnExactFrameOf", apart := false, narrowed := true }
def FnExactFrameOfUptoSaid : Prop := fnExactFrameOfUptoRow.holds Try.pinned (OpenSpec.upto fnExactFrameOfSpec)

/-- 'laws.FnExactCheckOf', WHERE WHAT IT READS IS OF BULK AT MOST 1048576: true; the input reads as it did. -/
def fnExactCheckOfUptoRow : OpenClaim := { program := "ytaokdocflbabjaa", sum := "ddf1381e535391af7e6b4d69dce9c3cc17cda496504f27aa30133d92e1d2b61e", func := "loop.example/g01176/laws.FnExactCheckOf", spec := "fnExactCheckOf", apart := false, narrowed := true }
def FnExactCheckOfUptoSaid : Prop := fnExactCheckOfUptoRow.holds Try.pinned (OpenSpec.upto fnExactCheckOfSpec)

/-- 'laws.FnExactHasCheck', WHERE WHAT IT READS IS OF BULK AT MOST 1048576: true; the input reads as it did. -/
def fnExactHasCheckUptoRow : OpenClaim := { program := "ytaokdocflbabjaa", sum := "ddf1381e535391af7e6b4d69dce9c3cc17cda496504f27aa30133d92e1d2b61e", func := "loop.example/g01176/laws.FnExactHasCheck", spec := "fnExactHasCheck", apart := false, narrowed := true }
def FnExactHasCheckUptoSaid : Prop := fnExactHasCheckUptoRow.holds Try.pinned (OpenSpec.upto fnExactHasCheckSpec)

/-- 'laws.FnExactBitsOf', WHERE WHAT IT READS IS OF BULK AT MOST 1048576: true; the input reads as it did. -/
def fnExactBitsOfUptoRow : OpenClaim := { program := "ytaokdocflbabjaa", sum := "ddf1381e535391af7e6b4d69dce9c3cc17cda496504f27aa30133d92e1d2b61e", func := "loop.example/g01176/laws.FnExactBitsOf", spec := "fnExactBitsOf", apart := false, narrowed := true }
def FnExactBitsOfUptoSaid : Prop := fnExactBitsOfUptoRow.holds Try.pinned (OpenSpec.upto fnExactBitsOfSpec)

/-- 'laws.FnExactFromBits', WHERE WHAT IT READS IS OF BULK AT MOST 1048576: true; the input reads as it did. -/
def fnExactFromBitsUptoRow : OpenClaim := { program := "ytaokdocflbabjaa", sum := "ddf1381e535391af7e6b4d69dce9c3cc17cda496504f27aa30133d92e1d2b61e", func := "loop.example/g01176/laws.FnExactFromBits", spec := "fnExactFromBits", apart := false, narrowed := true }
def FnExactFromBitsUptoSaid : Prop := fnExactFromBitsUptoRow.holds Try.pinned (OpenSpec.upto fnExactFromBitsSpec)

/-- 'laws.FnExactStuffBits', WHERE WHAT IT READS IS OF BULK AT MOST 1048576: true; the input reads as it did. -/
def fnExactStuffBitsUptoRow : OpenClaim := { program := "ytaokdocflbabjaa", sum := "ddf1381e535391af7e6b4d69dce9c3cc17cda496504f27aa30133d92e1d2b61e", func := "loop.example/g01176/laws.FnExactStuffBits", spec := "fnExactStuffBits", apart := false, narrowed := true }
def FnExactStuffBitsUptoSaid : Prop := fnExactStuffBitsUptoRow.holds Try.pinned (OpenSpec.upto fnExactStuffBitsSpec)

/-- 'laws.FnExactUnstuffBits', WHERE WHAT IT READS IS OF BULK AT MOST 1048576: true; the input reads as it did. -/
def fnExactUnstuffBitsUptoRow : OpenClaim := { program := "ytaokdocflbabjaa", sum := "ddf1381e535391af7e6b4d69dce9c3cc17cda496504f27aa30133d92e1d2b61e", func := "loop.example/g01176/laws.FnExactUnstuffBits", spec := "fnExactUnstuffBits", apart := false, narrowed := true }
def FnExactUnstuffBitsUptoSaid : Prop := fnExactUnstuffBitsUptoRow.holds Try.pinned (OpenSpec.upto fnExactUnstuffBitsSpec)

/-- 'laws.FnExactFlipBits', WHERE WHAT IT READS IS OF BULK AT MOST 1048576: true; the input reads as it did. -/
def fnExactFlipBitsUptoRow : OpenClaim := { program := "ytaokdocflbabjaa", sum := "ddf1381e535391af7e6b4d69dce9c3cc17cda496504f27aa30133d92e1d2b61e", func := "loop.example/g01176/laws.FnExactFlipBits", spec := "fnExactFlipBits", apart := false, narrowed := true }
def FnExactFlipBitsUptoSaid : Prop := fnExactFlipBitsUptoRow.holds Try.pinned (OpenSpec.upto fnExactFlipBitsSpec)

/-- 'laws.FnExactDistanceOf', WHERE WHAT IT READS IS OF BULK AT MOST 1048576: true; the input reads as it did. -/
def fnExactDistanceOfUptoRow : OpenClaim := { program := "ytaokdocflbabjaa", sum := "ddf1381e535391af7e6b4d69dce9c3cc17cda496504f27aa30133d92e1d2b61e", func := "loop.example/g01176/laws.FnExactDistanceOf", spec := "fnExactDistanceOf", apart := false, narrowed := true }
def FnExactDistanceOfUptoSaid : Prop := fnExactDistanceOfUptoRow.holds Try.pinned (OpenSpec.upto fnExactDistanceOfSpec)

/-- 'laws.FnExactFirstBlind', WHERE WHAT IT READS IS OF BULK AT MOST 1048576: true; the input reads as it did. -/
def fnExactFirstBlindUptoRow : OpenClaim := { program := "ytaokdocflbabjaa", sum := "ddf1381e535391af7e6b4d69dce9c3cc17cda496504f27aa30133d92e1d2b61e", func := "loop.example/g01176/laws.FnExactFirstBlind", spec := "fnExactFirstBlind", inPlace := ["slices.overlaps[int]"], recurses := true, apart := false, narrowed := true }
def FnExactFirstBlindUptoSaid : Prop := fnExactFirstBlindUptoRow.holds Try.pinned (OpenSpec.upto fnExactFirstBlindSpec)

end Rows
end Go.Proofs.Ytaokdocflbabjaa
