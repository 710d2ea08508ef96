/-
  DERIVED. GIVEN WITH THE SEED: THE CARDS: each row of YtmhemajcnfcdmaaGreatDoorRows.lean that lists a variable, with what it lists TIED to the program's text (the seventh form; the later family's looks); each row that meets fmt, with fmt's text TOLD by the authors' own Lean function (tested against real Go, not proved from fmt's source: count such statements apart). THE CARD IS WHAT COUNTS. Prove the row's statement (the work); the ties are given (YtmhemajcnfcdmaaGreatDoorTie.lean); close each card by the builder's one call (the guide's Derived/Test/ToyasCard.lean, 'card_holds'). Laid BY PROGRAM, IN A SANDBOX (cutbox-door.mjs). By AI agents, Wed Nov 11 2026. No macro, syntax, notation, axiom, sorry.
-/
import Derived.Test.YtmhemajcnfcdmaaGreatDoorRows
import GoSem.ClaimSeven
namespace Go.Proofs.YtmhemajcnfcdmaaGreatDoor
namespace Rows

/-- THE TIED CARD OF 'tapestrylaw02.OperDoes'. -/
def operDoesCard : Claim7 := { stood := { row := operDoesRow, standIns := [], harness := (true, "453ea70a4f2e6dfdc42b50d4f01af0af329fc08a3a642ed4c32fc8d22b98a421"), looks := false }, kinds := [], alts := [], laidByText := true, laidKinds := [.data, .data, .data, .data, .data], laidTests := true, laidLooks := .later }
def OperDoesCardSaid : Prop := Claim7.holds Tryz.pinned (.plain (OpenSpec.ofChange operDoesSpec)) operDoesCard

/-- THE SECOND FORM's CARD OF 'tapestrylaw02.OperDoes'. -/
def operDoesUptoCard : Claim7 := { stood := { row := operDoesUptoRow, standIns := [], harness := (true, "453ea70a4f2e6dfdc42b50d4f01af0af329fc08a3a642ed4c32fc8d22b98a421"), looks := false }, kinds := [], alts := [], laidByText := true, laidKinds := [.data, .data, .data, .data, .data], laidTests := true, laidLooks := .later }
def OperDoesUptoCardSaid : Prop := Claim7.holds Tryz.pinned (.plain (OpenSpec.upto operDoesSpec)) operDoesUptoCard
end Rows
end Go.Proofs.YtmhemajcnfcdmaaGreatDoor
