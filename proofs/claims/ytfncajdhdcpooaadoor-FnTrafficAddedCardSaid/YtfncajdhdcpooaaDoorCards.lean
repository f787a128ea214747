/-
  DERIVED. GIVEN WITH THE SEED: THE CARDS: each row of YtfncajdhdcpooaaDoorRows.lean that lists a variable, with what it lists TIED to the program's text (the seventh form; the later family's looks); each row that meets fmt, with fmt's text TOLD by the authors' own Lean function (tested against real Go, not proved from fmt's source: count such statements apart). THE CARD IS WHAT COUNTS. Prove the row's statement (the work); the ties are given (YtfncajdhdcpooaaDoorTie.lean); close each card by the builder's one call (the guide's Derived/Test/ToyasCard.lean, 'card_holds'). Laid BY PROGRAM, IN A SANDBOX (cutbox-door.mjs). By AI agents, Wed Nov 11 2026. No macro, syntax, notation, axiom, sorry.
-/
import Derived.Test.YtfncajdhdcpooaaDoorRows
import GoSem.ClaimSeven
namespace Go.Proofs.YtfncajdhdcpooaaDoor
namespace Rows

/-- THE TIED CARD OF 'laws.FnTrafficAdded'. -/
def fnTrafficAddedCard : Claim7 := { stood := { row := fnTrafficAddedRow, standIns := [], harness := (true, "72a6769d03ec139488a77d18151ec79e729243534c8323c3ddd6afe19ee5f9f9"), looks := false }, kinds := [], alts := [], laidByText := true, laidKinds := [.data, .data, .data], laidTests := true, laidLooks := .later }
def FnTrafficAddedCardSaid : Prop := Claim7.holds Tryd.pinned (.plain (OpenSpec.ofChange fnTrafficAddedSpec)) fnTrafficAddedCard

/-- THE SECOND FORM's CARD OF 'laws.FnTrafficAdded'. -/
def fnTrafficAddedUptoCard : Claim7 := { stood := { row := fnTrafficAddedUptoRow, standIns := [], harness := (true, "72a6769d03ec139488a77d18151ec79e729243534c8323c3ddd6afe19ee5f9f9"), looks := false }, kinds := [], alts := [], laidByText := true, laidKinds := [.data, .data, .data], laidTests := true, laidLooks := .later }
def FnTrafficAddedUptoCardSaid : Prop := Claim7.holds Tryd.pinned (.plain (OpenSpec.upto fnTrafficAddedSpec)) fnTrafficAddedUptoCard
end Rows
end Go.Proofs.YtfncajdhdcpooaaDoor
