/-
  No cell of these rows narrows 'for every input' (looked for: loops, veiled, ifaces, maps, wideKeys, modest, calm, conditions, laid).
  DERIVED. THE GIVEN ROWS OF THIS SEAT. 3 by the template 'for every input the law returns true; each argument reads behind the call as it read before'; 0 by the template 'total and deterministic' (their statements: YtdjpanmhlnnkoaaTotals.lean).
  GIVEN WITH THE SEED: the statements are not yours to turn. If you find one false, say at which input.
  Laid BY PROGRAM, IN A SANDBOX (cutbox-rows.mjs): the forced cells as the released guide's own fill.sh prints them over the translation 47727e326b95a1bf… (all of the seat's roots in one cut). By AI agents, Wed Nov 11 2026. No macro, syntax, notation, axiom, sorry.
-/
import Derived.Test.YtdjpanmhlnnkoaaChecked
import GoSem.Claim
import GoSem.ClaimJoined
import GoSem.ClaimMapViews
import Derived.JoinedTies
import Derived.KernelRfl
namespace Go.Proofs.Ytdjpanmhlnnkoaa
/- THE CELL 'sum', in the pinned program and in every row, IS THE sha256 OF THE DUMP (.gsa) THAT YtdjpanmhlnnkoaaProg.lean LOADS. Nothing in Lean hashes anything: it is a label: what it is worth is what the hold of that sum in a sandbox is worth. -/
noncomputable def Try.pinned : Pinned := { name := "ytdjpanmhlnnkoaa", sum := "47727e326b95a1bff74b72be3fe88b037d4fac03899bdc36989795365484144d", checked := Try.checked }
namespace Rows
def none {H : Type} : Left H := { results := [], args := [] }

/-- 'laws.FnExactServedBy': WHATEVER THE INPUT: true; the input reads as it did. -/
def fnExactServedBySpec : ChangeSpec := { name := "fnExactServedBy", fn := fun _ => fun
  | [d1, d2] => { results := [.lit (.bool true)], args := [d1, d2] }
  | _ => none }
def fnExactServedByRow : OpenClaim := { program := "ytdjpanmhlnnkoaa", sum := "47727e326b95a1bff74b72be3fe88b037d4fac03899bdc36989795365484144d", func := "loop.example/g01176/laws.FnExactServedBy", spec := "fnExactServedBy", unfollowed := true, recurses := true, apart := false }
def FnExactServedBySaid : Prop := fnExactServedByRow.holds Try.pinned (OpenSpec.ofChange fnExactServedBySpec)

/-- ITS FALSE NEIGHBOUR: 'it returns false'. Refute it at one input. -/
def fnExactServedByWrong : ChangeSpec := { name := "fnExactServedBy", fn := fun _ => fun
  | [d1, d2] => { results := [.lit (.bool false)], args := [d1, d2] }
  | _ => none }
def FnExactServedByWrongFalsely : Prop := fnExactServedByRow.holds Try.pinned (OpenSpec.ofChange fnExactServedByWrong)

/-- 'laws.FnExactBacklogServed': WHATEVER THE INPUT: true; the input reads as it did. -/
def fnExactBacklogServedSpec : ChangeSpec := { name := "fnExactBacklogServed", fn := fun _ => fun
  | [d1, d2] => { results := [.lit (.bool true)], args := [d1, d2] }
  | _ => none }
def fnExactBacklogServedRow : OpenClaim := { program := "ytdjpanmhlnnkoaa", sum := "47727e326b95a1bff74b72be3fe88b037d4fac03899bdc36989795365484144d", func := "loop.example/g01176/laws.FnExactBacklogServed", spec := "fnExactBacklogServed", unfollowed := true, recurses := true, apart := false }
def FnExactBacklogServedSaid : Prop := fnExactBacklogServedRow.holds Try.pinned (OpenSpec.ofChange fnExactBacklogServedSpec)

/-- ITS FALSE NEIGHBOUR: 'it returns false'. Refute it at one input. -/
def fnExactBacklogServedWrong : ChangeSpec := { name := "fnExactBacklogServed", fn := fun _ => fun
  | [d1, d2] => { results := [.lit (.bool false)], args := [d1, d2] }
  | _ => none }
def FnExactBacklogServedWrongFalsely : Prop := fnExactBacklogServedRow.holds Try.pinned (OpenSpec.ofChange fnExactBacklogServedWrong)

/-- 'laws.FnExactDelayServed': WHATEVER THE INPUT: true; the input reads as it did. -/
def fnExactDelayServedSpec : ChangeSpec := { name := "fnExactDelayServed", fn := fun _ => fun
  | [d1, d2] => { results := [.lit (.bool true)], args := [d1, d2] }
  | _ => none }
def fnExactDelayServedRow : OpenClaim := { program := "ytdjpanmhlnnkoaa", sum := "47727e326b95a1bff74b72be3fe88b037d4fac03899bdc36989795365484144d", func := "loop.example/g01176/laws.FnExactDelayServed", spec := "fnExactDelayServed", unfollowed := true, recurses := true, apart := false }
def FnExactDelayServedSaid : Prop := fnExactDelayServedRow.holds Try.pinned (OpenSpec.ofChange fnExactDelayServedSpec)

/-- ITS FALSE NEIGHBOUR: 'it returns false'. Refute it at one input. -/
def fnExactDelayServedWrong : ChangeSpec := { name := "fnExactDelayServed", fn := fun _ => fun
  | [d1, d2] => { results := [.lit (.bool false)], args := [d1, d2] }
  | _ => none }
def FnExactDelayServedWrongFalsely : Prop := fnExactDelayServedRow.holds Try.pinned (OpenSpec.ofChange fnExactDelayServedWrong)

/- THE SECOND FORM. 'bulk': how many values and letters a reading holds, each counted each time it is reached (what is shared counts as often as it is met; a slice's spare places count too). A statement '..UptoSaid' is the law's where the arguments, and the package variables that the reading takes, are together of bulk at most 1048576: NARROWER than '..Said'. Prove '..Said' where nothing that the law and all that it calls make is longer than what came in: it says more and counts as full. Else prove '..UptoSaid'. A law counts once. -/
mutual
def uptoBulk {H : Type} : DataW H → Nat
  | .lit (.string bytes) => bytes.length + 1
  | .lit _ => 1
  | .nil => 1
  | .ptr d => uptoBulk d + 1
  | .slice elems spare => uptoBulkAll elems + uptoBulkAll spare + 1
  | .agg parts => uptoBulkAll parts + 1
  | .iface _ d => uptoBulk d + 1
  | .map entries => uptoBulkEntries entries + 1
  | .held _ => 1
def uptoBulkAll {H : Type} : List (DataW H) → Nat
  | [] => 0
  | d :: r => uptoBulk d + uptoBulkAll r
def uptoBulkEntries {H : Type} : List (Lit × DataW H) → Nat
  | [] => 0
  | x :: r => uptoBulkEntry x + uptoBulkEntries r
def uptoBulkEntry {H : Type} : Lit × DataW H → Nat
  | (.string bytes, d) => bytes.length + uptoBulk d + 1
  | (_, d) => uptoBulk d + 1
 end
def uptoSmall : (H : Type) → List (DataW H) → Bool := fun _ ds => decide (uptoBulkAll ds ≤ 1048576)
def OpenSpec.upto (s : _root_.Go.ChangeSpec) : _root_.Go.OpenSpec := { _root_.Go.OpenSpec.ofChange s with cond := some uptoSmall }

/-- 'laws.FnExactServedBy', WHERE WHAT IT READS IS OF BULK AT MOST 1048576: true; the input reads as it did. -/
def fnExactServedByUptoRow : OpenClaim := { program := "ytdjpanmhlnnkoaa", sum := "47727e326b95a1bff74b72be3fe88b037d4fac03899bdc36989795365484144d", func := "loop.example/g01176/laws.FnExactServedBy", spec := "fnExactServedBy", unfollowed := true, recurses := true, apart := false, narrowed := true }
def FnExactServedByUptoSaid : Prop := fnExactServedByUptoRow.holds Try.pinned (OpenSpec.upto fnExactServedBySpec)

/-- 'laws.FnExactBacklogServed', WHERE WHAT IT READS IS OF BULK AT MOST 1048576: true; the input reads as it did. -/
def fnExactBacklogServedUptoRow : OpenClaim := { program := "ytdjpanmhlnnkoaa", sum := "47727e326b95a1bff74b72be3fe88b037d4fac03899bdc36989795365484144d", func := "loop.example/g01176/laws.FnExactBacklogServed", spec := "fnExactBacklogServed", unfollowed := true, recurses := true, apart := false, narrowed := true }
def FnExactBacklogServedUptoSaid : Prop := fnExactBacklogServedUptoRow.holds Try.pinned (OpenSpec.upto fnExactBacklogServedSpec)

/-- 'laws.FnExactDelayServed', WHERE WHAT IT READS IS OF BULK AT MOST 1048576: true; the input reads as it did. -/
def fnExactDelayServedUptoRow : OpenClaim := { program := "ytdjpanmhlnnkoaa", sum := "47727e326b95a1bff74b72be3fe88b037d4fac03899bdc36989795365484144d", func := "loop.example/g01176/laws.FnExactDelayServed", spec := "fnExactDelayServed", unfollowed := true, recurses := true, apart := false, narrowed := true }
def FnExactDelayServedUptoSaid : Prop := fnExactDelayServedUptoRow.holds Try.pinned (OpenSpec.upto fnExactDelayServedSpec)

end Rows
end Go.Proofs.Ytdjpanmhlnnkoaa
