/-
  No cell of these rows narrows 'for every input' (looked for: loops, veiled, ifaces, maps, wideKeys, modest, calm, conditions, laid).
  DERIVED. THE GIVEN ROWS OF THIS SEAT. 4 by the template 'for every input the law returns true; each argument reads behind the call as it read before'; 0 by the template 'total and deterministic' (their statements: YtffmpkdkifecpaaTotals.lean).
  GIVEN WITH THE SEED: the statements are not yours to turn. If you find one false, say at which input.
  Laid BY PROGRAM, IN A SANDBOX (cutbox-rows.mjs): the forced cells as the released guide's own fill.sh prints them over the translation 70d62d7d4dd6d9d4… (all of the seat's roots in one cut). By AI agents, Wed Nov 11 2026. No macro, syntax, notation, axiom, sorry.
-/
import Derived.Test.YtffmpkdkifecpaaChecked
import GoSem.Claim
import GoSem.ClaimJoined
import GoSem.ClaimMapViews
import Derived.JoinedTies
import Derived.KernelRfl
namespace Go.Proofs.Ytffmpkdkifecpaa
/- THE CELL 'sum', in the pinned program and in every row, IS THE sha256 OF THE DUMP (.gsa) THAT YtffmpkdkifecpaaProg.lean LOADS. Nothing in Lean hashes anything: it is a label: what it is worth is what the hold of that sum in a sandbox is worth. -/
noncomputable def Try.pinned : Pinned := { name := "ytffmpkdkifecpaa", sum := "70d62d7d4dd6d9d4ed7d7779f9a2e173b0793682eda939ae0cd8acf292c42dcc", checked := Try.checked }
namespace Rows
def none {H : Type} : Left H := { results := [], args := [] }

/-- 'laws.FnExactLeaveOut': WHATEVER THE INPUT: true; the input reads as it did. -/
def fnExactLeaveOutSpec : ChangeSpec := { name := "fnExactLeaveOut", fn := fun _ => fun
  | [d1, d2] => { results := [.lit (.bool true)], args := [d1, d2] }
  | _ => none }
def fnExactLeaveOutRow : OpenClaim := { program := "ytffmpkdkifecpaa", sum := "70d62d7d4dd6d9d4ed7d7779f9a2e173b0793682eda939ae0cd8acf292c42dcc", func := "loop.example/g01176/laws.FnExactLeaveOut", spec := "fnExactLeaveOut", unfollowed := true, recurses := true, apart := false }
def FnExactLeaveOutSaid : Prop := fnExactLeaveOutRow.holds Try.pinned (OpenSpec.ofChange fnExactLeaveOutSpec)

/-- ITS FALSE NEIGHBOUR: 'it returns false'. Refute it at one input. -/
def fnExactLeaveOutWrong : ChangeSpec := { name := "fnExactLeaveOut", fn := fun _ => fun
  | [d1, d2] => { results := [.lit (.bool false)], args := [d1, d2] }
  | _ => none }
def FnExactLeaveOutWrongFalsely : Prop := fnExactLeaveOutRow.holds Try.pinned (OpenSpec.ofChange fnExactLeaveOutWrong)

/-- 'laws.FnExactPiecesOf': WHATEVER THE INPUT: true; the input reads as it did. -/
def fnExactPiecesOfSpec : ChangeSpec := { name := "fnExactPiecesOf", fn := fun _ => fun
  | [d] => { results := [.lit (.bool true)], args := [d] }
  | _ => none }
def fnExactPiecesOfRow : OpenClaim := { program := "ytffmpkdkifecpaa", sum := "70d62d7d4dd6d9d4ed7d7779f9a2e173b0793682eda939ae0cd8acf292c42dcc", func := "loop.example/g01176/laws.FnExactPiecesOf", spec := "fnExactPiecesOf", apart := false }
def FnExactPiecesOfSaid : Prop := fnExactPiecesOfRow.holds Try.pinned (OpenSpec.ofChange fnExactPiecesOfSpec)

/-- ITS FALSE NEIGHBOUR: 'it returns false'. Refute it at one input. -/
def fnExactPiecesOfWrong : ChangeSpec := { name := "fnExactPiecesOf", fn := fun _ => fun
  | [d] => { results := [.lit (.bool false)], args := [d] }
  | _ => none }
def FnExactPiecesOfWrongFalsely : Prop := fnExactPiecesOfRow.holds Try.pinned (OpenSpec.ofChange fnExactPiecesOfWrong)

/-- 'laws.FnExactWrapFrom': WHATEVER THE INPUT: true; the input reads as it did. -/
def fnExactWrapFromSpec : ChangeSpec := { name := "fnExactWrapFrom", fn := fun _ => fun
  | [d1, d2] => { results := [.lit (.bool true)], args := [d1, d2] }
  | _ => none }
def fnExactWrapFromRow : OpenClaim := { program := "ytffmpkdkifecpaa", sum := "70d62d7d4dd6d9d4ed7d7779f9a2e173b0793682eda939ae0cd8acf292c42dcc", func := "loop.example/g01176/laws.FnExactWrapFrom", spec := "fnExactWrapFrom", apart := false }
def FnExactWrapFromSaid : Prop := fnExactWrapFromRow.holds Try.pinned (OpenSpec.ofChange fnExactWrapFromSpec)

/-- ITS FALSE NEIGHBOUR: 'it returns false'. Refute it at one input. -/
def fnExactWrapFromWrong : ChangeSpec := { name := "fnExactWrapFrom", fn := fun _ => fun
  | [d1, d2] => { results := [.lit (.bool false)], args := [d1, d2] }
  | _ => none }
def FnExactWrapFromWrongFalsely : Prop := fnExactWrapFromRow.holds Try.pinned (OpenSpec.ofChange fnExactWrapFromWrong)

/-- 'laws.FnExactCountTalking': WHATEVER THE INPUT: true; the input reads as it did. -/
def fnExactCountTalkingSpec : ChangeSpec := { name := "fnExactCountTalking", fn := fun _ => fun
  | [d1, d2] => { results := [.lit (.bool true)], args := [d1, d2] }
  | _ => none }
def fnExactCountTalkingRow : OpenClaim := { program := "ytffmpkdkifecpaa", sum := "70d62d7d4dd6d9d4ed7d7779f9a2e173b0793682eda939ae0cd8acf292c42dcc", func := "loop.example/g01176/laws.FnExactCountTalking", spec := "fnExactCountTalking", apart := false }
def FnExactCountTalkingSaid : Prop := fnExactCountTalkingRow.holds Try.pinned (OpenSpec.ofChange fnExactCountTalkingSpec)

/-- ITS FALSE NEIGHBOUR: 'it returns false'. Refute it at one input. -/
def fnExactCountTalkingWrong : ChangeSpec := { name := "fnExactCountTalking", fn := fun _ => fun
  | [d1, d2] => { results := [.lit (.bool false)], args := [d1, d2] }
  | _ => none }
def FnExactCountTalkingWrongFalsely : Prop := fnExactCountTalkingRow.holds Try.pinned (OpenSpec.ofChange fnExactCountTalkingWrong)

/- THE SECOND FORM. 'bulk': how many values and letters a reading holds, each counted each time it is reached (what is shared counts as often as it is met; a slice's spare places count too). A statement '..UptoSaid' is the law's where the arguments, and the package variables that the reading takes, are together of bulk at most 1048576: NARROWER than '..Said'. Prove '..Said' where nothing that the law and all that it calls make is longer than what came in: it says more and counts as full. Else prove '..UptoSaid'. A law counts once. -/
mutual
def uptoBulk {H : Type} : DataW H → Nat
  | .lit (.string bytes) => bytes.length + 1
  | .lit _ => 1
  | .nil => 1
  | .ptr d => uptoBulk d + 1
  | .slice elems spare => uptoBulkAll elems + uptoBulkAll spare + 1
  | .agg parts => uptoBulkAll parts + 1
  | .iface _ d => uptoBulk d + 1
  | .map entries => uptoBulkEntries entries + 1
  | .held _ => 1
def uptoBulkAll {H : Type} : List (DataW H) → Nat
  | [] => 0
  | d :: r => uptoBulk d + uptoBulkAll r
def uptoBulkEntries {H : Type} : List (Lit × DataW H) → Nat
  | [] => 0
  | x :: r => uptoBulkEntry x + uptoBulkEntries r
def uptoBulkEntry {H : Type} : Lit × DataW H → Nat
  | (.string bytes, d) => bytes.length + uptoBulk d + 1
  | (_, d) => uptoBulk d + 1
 end
def uptoSmall : (H : Type) → List (DataW H) → Bool := fun _ ds => decide (uptoBulkAll ds ≤ 1048576)
def OpenSpec.upto (s : _root_.Go.ChangeSpec) : _root_.Go.OpenSpec := { _root_.Go.OpenSpec.ofChange s with cond := some uptoSmall }

/-- 'laws.FnExactLeaveOut', WHERE WHAT IT READS IS OF BULK AT MOST 1048576: true; the input reads as it did. -/
def fnExactLeaveOutUptoRow : OpenClaim := { program := "ytffmpkdkifecpaa", sum := "70d62d7d4dd6d9d4ed7d7779f9a2e173b0793682eda939ae0cd8acf292c42dcc", func := "loop.example/g01176/laws.FnExactLeaveOut", spec := "fnExactLeaveOut", unfollowed := true, recurses := true, apart := false, narrowed := true }
def FnExactLeaveOutUptoSaid : Prop := fnExactLeaveOutUptoRow.holds Try.pinned (OpenSpec.upto fnExactLeaveOutSpec)

/-- 'laws.FnExactPiecesOf', WHERE WHAT IT READS IS OF BULK AT MOST 1048576: true; the input reads as it did. -/
def fnExactPiecesOfUptoRow : OpenClaim := { program := "ytffmpkdkifecpaa", sum := "70d62d7d4dd6d9d4ed7d7779f9a2e173b0793682eda939ae0cd8acf292c42dcc", func := "loop.example/g01176/laws.FnExactPiecesOf", spec := "fnExactPiecesOf", apart := false, narrowed := true }
def FnExactPiecesOfUptoSaid : Prop := fnExactPiecesOfUptoRow.holds Try.pinned (OpenSpec.upto fnExactPiecesOfSpec)

/-- 'laws.FnExactWrapFrom', WHERE WHAT IT READS IS OF BULK AT MOST 1048576: true; the input reads as it did. -/
def fnExactWrapFromUptoRow : OpenClaim := { program := "ytffmpkdkifecpaa", sum := "70d62d7d4dd6d9d4ed7d7779f9a2e173b0793682eda939ae0cd8acf292c42dcc", func := "loop.example/g01176/laws.FnExactWrapFrom", spec := "fnExactWrapFrom", apart := false, narrowed := true }
def FnExactWrapFromUptoSaid : Prop := fnExactWrapFromUptoRow.holds Try.pinned (OpenSpec.upto fnExactWrapFromSpec)

/-- 'laws.FnExactCountTalking', WHERE WHAT IT READS IS OF BULK AT MOST 1048576: true; the input reads as it did. -/
def fnExactCountTalkingUptoRow : OpenClaim := { program := "ytffmpkdkifecpaa", sum := "70d62d7d4dd6d9d4ed7d7779f9a2e173b0793682eda939ae0cd8acf292c42dcc", func := "loop.example/g01176/laws.FnExactCountTalking", spec := "fnExactCountTalking", apart := false, narrowed := true }
def FnExactCountTalkingUptoSaid : Prop := fnExactCountTalkingUptoRow.holds Try.pinned (OpenSpec.upto fnExactCountTalkingSpec)

end Rows
end Go.Proofs.Ytffmpkdkifecpaa
