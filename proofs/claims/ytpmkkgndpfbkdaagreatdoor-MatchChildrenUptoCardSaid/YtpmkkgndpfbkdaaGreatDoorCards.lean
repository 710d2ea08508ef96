/-
  DERIVED. GIVEN WITH THE SEED: THE CARDS: each row of YtpmkkgndpfbkdaaGreatDoorRows.lean that lists a variable, with what it lists TIED to the program's text (the seventh form; the later family's looks); each row that meets fmt, with fmt's text TOLD by the authors' own Lean function (tested against real Go, not proved from fmt's source: count such statements apart). THE CARD IS WHAT COUNTS. Prove the row's statement (the work); the ties are given (YtpmkkgndpfbkdaaGreatDoorTie.lean); close each card by the builder's one call (the guide's Derived/Test/ToyasCard.lean, 'card_holds'). Laid BY PROGRAM, IN A SANDBOX (cutbox-door.mjs). By AI agents, Wed Nov 11 2026. No macro, syntax, notation, axiom, sorry.
-/
import Derived.Test.YtpmkkgndpfbkdaaGreatDoorRows
import GoSem.ClaimSeven
namespace Go.Proofs.YtpmkkgndpfbkdaaGreatDoor
namespace Rows

/-- THE TIED CARD OF 'tapestrylaw08.MatchChildren'. -/
def matchChildrenCard : Claim7 := { stood := { row := matchChildrenRow, standIns := [], harness := (true, "57435ecfe0320bf737e556586501a19c450b46830609ef6731ba4f681acd8f8b"), looks := false }, kinds := [], alts := [], laidByText := true, laidKinds := [.data, .data, .data], laidTests := true, laidLooks := .later }
def MatchChildrenCardSaid : Prop := Claim7.holds Tryz.pinned (.plain (OpenSpec.ofChange matchChildrenSpec)) matchChildrenCard

/-- THE SECOND FORM's CARD OF 'tapestrylaw08.MatchChildren'. -/
def matchChildrenUptoCard : Claim7 := { stood := { row := matchChildrenUptoRow, standIns := [], harness := (true, "57435ecfe0320bf737e556586501a19c450b46830609ef6731ba4f681acd8f8b"), looks := false }, kinds := [], alts := [], laidByText := true, laidKinds := [.data, .data, .data], laidTests := true, laidLooks := .later }
def MatchChildrenUptoCardSaid : Prop := Claim7.holds Tryz.pinned (.plain (OpenSpec.upto matchChildrenSpec)) matchChildrenUptoCard
end Rows
end Go.Proofs.YtpmkkgndpfbkdaaGreatDoor
